/- Bytes that the model draws: at most 401 of them, in memory of the draw's own; nothing that was there is turned; sources of at most 1048576 bytes · Words on memory, with no program in them: where a slice of whole numbers is read, what a row of the call's own holds; no conditions beyond those that each fact names · Each helper of the laws over slices of whole numbers does what its text says: it copies one, and holds two against each other; slices of at most 1048576 numbers. -/
import Derived.Test.YtilepbbcinbmhaaDoorDrwToDrw2
import Derived.Test.YtilepbbcinbmhaaDoorMemToInf
import Derived.Test.YtilepbbcinbmhaaDoorChecked
import Derived.BigQuiet
import Derived.Deep.QuietTactic
import Derived.KernelRfl
namespace Go.Proofs.YtilepbbcinbmhaaDoor
open Go.RowKit

/-- How a draw of bytes ends: a plain word, so that no walk opens it. -/
def LongEnd (b C : Nat) (w : World) (e : Ending) (w' : World) : Prop := ∃ (v : Value) (out : List Nat), e = .returned v ∧ Own w' C v out ∧ IsB out ∧ out.length ≤ 401 ∧ Below b w w'
theorem longEnd {b C : Nat} {w w' : World} {v : Value} {out : List Nat} (h1 : Own w' C v out) (h2 : IsB out) (h3 : out.length ≤ 401) (h4 : Below b w w') : LongEnd b C w (.returned v) w' := ⟨v, out, rfl, h1, h2, h3, h4⟩


theorem lwBig_any (a : Option Addr) (n cap : Nat) (w : World) :
    Calls Tryd.prog 5 #[.slice a n cap] w fun e w' => e = .returned (.bool (decide ((1048576 : Int) < (n : Int)))) ∧ w = w' := by
  go_enter Tryd.func5, Tryd.ntmps5
  go_wp2
  go_ret
  exact ⟨rfl, rfl⟩

end Go.Proofs.YtilepbbcinbmhaaDoor

namespace Go.Proofs.YtilepbbcinbmhaaDoor
open Go.RowKit

/-- The i-th number of a list (0 behind its end). -/
def nthI (l : List Int) (i : Nat) : Int := l.getD i 0
/-- Numbers as cells. -/
def ic (l : List Int) : List Value := l.map fun (b : Int) => Value.int .i64 b

theorem nthI_get {l : List Int} {i : Nat} (h : i < l.length) : nthI l i = l[i] := by
  unfold nthI; rw [List.getD_eq_getElem?_getD, List.getElem?_eq_getElem h]; rfl

theorem ic_len (l : List Int) : (ic l).length = l.length := by simp [ic]
theorem ic_one (l : List Int) : ∀ u ∈ ic l, u.oneCell' = true := by
  intro u hu
  simp only [ic, List.mem_map] at hu
  obtain ⟨b, _, rfl⟩ := hu
  rfl
theorem ic_app (a b : List Int) : ic (a ++ b) = ic a ++ ic b := by simp [ic]
theorem ic_get {l : List Int} {i : Nat} (h : i < l.length) : (ic l)[i]? = some (.int .i64 (nthI l i)) := by
  rw [nthI_get h]; simp [ic, h]

theorem nthI_drop (l : List Int) (k i : Nat) : nthI (l.drop k) i = nthI l (k + i) := by
  simp [nthI, List.getD_eq_getElem?_getD, List.getElem?_drop]
theorem take_snocI (l : List Int) (k : Nat) (h : k < l.length) : l.take (k + 1) = l.take k ++ [nthI l k] := by
  rw [List.take_succ_eq_append_getElem h, nthI_get h]
theorem drop_consI (l : List Int) (k : Nat) (h : k < l.length) : l.drop k = nthI l k :: l.drop (k + 1) := by
  rw [nthI_get h]; exact List.drop_eq_getElem_cons h


/-- WHERE A SLICE OF BYTES IS READ: at its address stand the bytes l. -/
def RdI (w : World) (a : Option Addr) (l : List Int) : Prop :=
  l = [] ∨ ∃ b off, a = some ⟨b, off, none⟩ ∧ b < w.heap.size ∧ ∀ i, i < l.length → w.cell? ⟨b, off + i, none⟩ = some (.int .i64 (nthI l i))

theorem RdI.below {w w' : World} {a : Option Addr} {l : List Int} (h : RdI w a l) (hb : Below w.heap.size w w') : RdI w' a l := by
  rcases h with h | ⟨b, off, e, hlt, hc⟩
  · exact .inl h
  · exact .inr ⟨b, off, e, Nat.lt_of_lt_of_le hlt hb.size, fun i hi => (hb.cell (p := ⟨b, off + i, none⟩) hlt).trans (hc i hi)⟩
/-- Where there is an element there is an address. -/
theorem RdI.at_ {w : World} {a : Option Addr} {l : List Int} (h : RdI w a l) (hp : 0 < l.length) :
    ∃ b off, a = some ⟨b, off, none⟩ ∧ b < w.heap.size ∧ ∀ i, i < l.length → w.cell? ⟨b, off + i, none⟩ = some (.int .i64 (nthI l i)) := by
  rcases h with h | h
  · rw [h] at hp; simp at hp
  · exact h
theorem RdI.drop {w : World} {b off : Nat} {l : List Int} (h : RdI w (some ⟨b, off, none⟩) l) (k : Nat) : RdI w (some ⟨b, off + k, none⟩) (l.drop k) := by
  rcases h with h | ⟨b', off', e, hlt, hc⟩
  · left; simp [h]
  · obtain ⟨rfl, rfl⟩ : b = b' ∧ off = off' := by simpa using e
    right
    refine ⟨b, off + k, rfl, hlt, fun i hi => ?_⟩
    rw [List.length_drop] at hi
    rw [nthI_drop, Nat.add_assoc]
    exact hc (k + i) (by omega)


/-- A row of the call's own, read. -/
theorem RdI.own {w : World} {base e n cap : Nat} {a : Option Addr} {l : List Int} (h : w.ownsRow base e 1 (.slice a n cap) n (ic l)) : RdI w a l := by
  have hl : l.length = n := by simpa [ic_len] using h.1
  rcases h.2 with ⟨_, h0⟩ | ⟨g, cap', cur, h', _, hg, _, _, _, htake⟩
  · left; exact List.length_eq_zero_iff.1 (by omega)
  · simp only [Value.slice.injEq] at h'
    obtain ⟨rfl, _, rfl⟩ := h'
    right
    refine ⟨g, 0, rfl, ?_, fun i hi => ?_⟩
    · rcases Nat.lt_or_ge g w.heap.size with hlt | hge
      · exact hlt
      · simp [Array.getElem?_eq_none hge] at hg
    · rw [cell_of_row w g (0 + i) cur e (0, 0) hg, ← ic_get hi, ← htake, List.getElem?_take, if_pos (by omega)]
      simp


/-- What the making of a row of n bytes lays. -/
theorem made_bytesI (n : Nat) : (madeCells (Value.int .i64 0).cells (n * 1)).toList = ic (List.replicate n 0) := by
  rw [Nat.mul_one]
  show (madeCells #[Value.int .i64 0] n).toList = _
  rw [toList_madeCells_one]
  simp [ic]

/-- A copy in the making: k bytes are there, the others are 0 yet. -/
def halfI (l : List Int) (k : Nat) : List Int := l.take k ++ List.replicate (l.length - k) 0
theorem halfI_zero (l : List Int) : halfI l 0 = List.replicate l.length 0 := by simp [halfI]
theorem halfI_all (l : List Int) : halfI l l.length = l := by simp [halfI]
theorem halfI_len (l : List Int) (k : Nat) (h : k ≤ l.length) : (halfI l k).length = l.length := by simp [halfI]; omega
theorem halfI_set (l : List Int) (k : Nat) (h : k < l.length) : (ic (halfI l k)).set k (.int .i64 (nthI l k)) = ic (halfI l (k + 1)) := by
  have e : l.length - k = (l.length - (k + 1)) + 1 := by omega
  unfold halfI
  have hk : (ic (l.take k)).length = k := by simp [ic]; omega
  rw [take_snocI l k h, ic_app, List.set_append, hk, if_neg (Nat.lt_irrefl k), e, List.replicate_succ, Nat.sub_self]
  simp [ic]


/-- A slice of numbers that came in. -/
theorem IsRow.rdI {w : World} {a : Option Addr} {len cap : Nat} {zs : List Int} (h : IsRow .i64 w a len cap zs) : ∃ l : List Int, l.length = len ∧ RdI w a l ∧ len ≤ maxLen := by
  rcases h with ⟨_, rfl, _, rfl⟩ | ⟨x, rfl, hl, hm, hz, hcell, hwz⟩
  · exact ⟨[], rfl, .inl rfl, by decide⟩
  · refine ⟨zs.take len, by simp; omega, ?_, by omega⟩
    by_cases h0 : zs.length = 0
    · left
      have : zs = [] := List.length_eq_zero_iff.1 h0
      subst this; simp
    · obtain ⟨b, off, rfl, hc⟩ := ints_at hcell (by omega)
      right
      refine ⟨b, off, rfl, World.block_lt_of_cell? w _ (hc 0 (by omega)), fun i hi => ?_⟩
      have hi' : i < len := by simp at hi; omega
      have hiz : i < zs.length := by omega
      rw [hc i hiz, nthI_get hi]
      simp [hiz]
end Go.Proofs.YtilepbbcinbmhaaDoor

namespace Go.Proofs.YtilepbbcinbmhaaDoor
open Go.RowKit

theorem infoBI : (Tryd.prog.info? 2).map (fun i => (i.zero, i.size, i.bytes)) = some (some (.int .i64 0), 1, 8) := by kernel_rfl

set_option maxHeartbeats 800000 in
set_option maxRecDepth 100000 in
theorem toInt64S_any (a : Option Addr) (n cap : Nat) (l : List Int) (w : World) (hl : l.length = n) (hr : RdI w a l) (hn : n ≤ 1048576) :
    Calls Tryd.prog 49 #[.slice a n cap] w fun e w' =>
      e = .returned (.slice (some ⟨w.heap.size, 0, none⟩) n n) ∧ w'.ownsRow w.heap.size 2 1 (.slice (some ⟨w.heap.size, 0, none⟩) n n) n (ic l) ∧ Below w.heap.size w w' := by
  obtain ⟨i0, hi, hz0, hz1, hz2⟩ := info_parts infoBI
  go_enter Tryd.func49, Tryd.ntmps49
  go_wp2_with (at_make; refine wpList_make_full _ rfl _ _ 47 rfl w.heap.size 2 i0 (.int .i64 0) 1 Tryd.underlying47 hi hz0 hz1 .i64 .i64 _ _ n rfl rfl rfl rfl (by rw [hz2]; omega) (by unfold maxLen; omega) (Nat.le_refl _) ?_; intro w0 hown0 hgrow0)
  rw [made_bytesI, ← hl, ← halfI_zero l, hl] at hown0
  have hbel0 : Below w.heap.size w w0 := (Below.refl _ _).grown hgrow0 (Nat.le_refl _) (by intro k hk; cases hk)
  clear hgrow0
  go_loopw [4] (fun i wr => ∃ k : Nat, k ≤ n ∧ i = .int .i64 k ∧ wr.ownsRow w.heap.size 2 1 (.slice (some ⟨w.heap.size, 0, none⟩) n n) n (ic (halfI l k)) ∧ Below w.heap.size w wr)
    (fun i _ => n - (intOf i).toNat)
  case atStart => exact ⟨0, Nat.zero_le _, rfl, hown0, hbel0⟩
  case round =>
    obtain ⟨k, hk, rfl, hown, hbel⟩ := hrel
    clear hown0 hbel0
    by_cases hkn : k < n
    · obtain ⟨b, off, rfl, hblt, hcell⟩ := hr.at_ (by omega)
      have hc : wr.cell? ⟨b, off + k, none⟩ = some (.int .i64 (nthI l k)) := (hbel.cell (p := ⟨b, off + k, none⟩) hblt).trans (hcell k (by omega))
      have hk' : k < (halfI l k).length := by rw [halfI_len l k (by omega)]; omega
      have hg : wr.cell? ⟨w.heap.size, k, none⟩ = some (.int .i64 (nthI (halfI l k) k)) := by rw [hown.cellAt k (by omega)]; exact ic_get hk'
      have hf := hown.frozenAt k
      obtain ⟨hst, hgr⟩ := hown.stored k (.int .i64 (nthI l k))
      rw [halfI_set l k (by omega)] at hst
      have hbel' : Below w.heap.size w (wr.setCell ⟨w.heap.size, k, none⟩ (.int .i64 (nthI l k))) := hbel.grown hgr hbel.size (by intro j hj; simp at hj; omega)
      clear hgr hcell hown
      go_wp2
      go_roundw
      case rel => exact ⟨k + 1, by omega, by go_num, hst, hbel'⟩
      case measure => simp [intOf]; omega
    · have hkk : k = n := by omega
      subst hkk
      rw [← hl, halfI_all, hl] at hown
      go_wp2
      go_ret
      exact ⟨rfl, hown, hbel⟩

theorem toInt64S_ex (a : Option Addr) (n cap : Nat) (l : List Int) (w : World) (hl : l.length = n) (hr : RdI w a l) (hn : n ≤ 1048576) :
    Calls Tryd.prog 49 #[.slice a n cap] w fun e w' => ∃ g, e = .returned (.slice (some ⟨g, 0, none⟩) n n) ∧ RdI w' (some ⟨g, 0, none⟩) l ∧ Below w.heap.size w w' :=
  (toInt64S_any a n cap l w hl hr hn).mono fun _ _ ⟨he, ho, hb⟩ => ⟨_, he, RdI.own ho, hb⟩

set_option maxHeartbeats 800000 in
set_option maxRecDepth 100000 in
theorem eqInt64S_same (a c : Option Addr) (n cap cap' : Nat) (l : List Int) (w : World) (hl : l.length = n) (hr : RdI w a l) (hs : RdI w c l) (hn : n ≤ 1048576) :
    Calls Tryd.prog 53 #[.slice a n cap, .slice c n cap'] w fun e w' => e = .returned (.bool true) ∧ Below w.heap.size w w' := by
  go_enter Tryd.func53, Tryd.ntmps53
  go_wp2
  go_loopw [5] (fun i wr => ∃ k : Nat, k ≤ n ∧ i = .int .i64 k ∧ Below w.heap.size w wr) (fun i _ => n - (intOf i).toNat)
  case atStart => exact ⟨0, Nat.zero_le _, rfl, Below.refl _ _⟩
  case round =>
    obtain ⟨k, hk, rfl, hbel⟩ := hrel
    by_cases hkn : k < n
    · obtain ⟨b, off, rfl, hblt, hcell⟩ := hr.at_ (by omega)
      obtain ⟨d, off', rfl, hdlt, hdell⟩ := hs.at_ (by omega)
      have hc : wr.cell? ⟨b, off + k, none⟩ = some (.int .i64 (nthI l k)) := (hbel.cell (p := ⟨b, off + k, none⟩) hblt).trans (hcell k (by omega))
      have hd : wr.cell? ⟨d, off' + k, none⟩ = some (.int .i64 (nthI l k)) := (hbel.cell (p := ⟨d, off' + k, none⟩) hdlt).trans (hdell k (by omega))
      have hki : (k : Int) < (n : Int) := by omega
      clear hcell hdell hr hs
      go_wp2
      go_quiet (fail)
      go_wp2
      go_roundw
      case rel => exact ⟨k + 1, by omega, by go_num, below_drewN hbel _⟩
      case measure => simp [intOf]; omega
    · go_wp2
      go_ret
      exact ⟨rfl, hbel⟩
end Go.Proofs.YtilepbbcinbmhaaDoor
