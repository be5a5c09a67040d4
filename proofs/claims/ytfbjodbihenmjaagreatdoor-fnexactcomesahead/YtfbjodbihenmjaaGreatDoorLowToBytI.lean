/- CharsetOf, the program's and the model's: both by one plain function; texts of at most 1048576 bytes · Words on memory, with no program in them: where a slice of whole numbers is read, what a row of the call's own holds; no conditions beyond those that each fact names · Each helper of the laws over slices of whole numbers does what its text says: it copies one, and holds two against each other; slices of at most 1048576 numbers. -/
import Derived.Test.YtfbjodbihenmjaaGreatDoorWPmToNam2
import Derived.Test.YtfbjodbihenmjaaGreatDoorCvToLow0
import Derived.Test.YtfbjodbihenmjaaGreatDoorJfqToInf
import Derived.Test.YtfbjodbihenmjaaGreatDoorProg
import Derived.BigQuiet
import Derived.Deep.QuietTactic
import Derived.KernelRfl
namespace Go.Proofs.YtfbjodbihenmjaaGreatDoor
open Go.RowKit

/-- What CharsetOf answers of a text. -/
def csfV (s : ByteArray) : Int × Int := ofV (findN csN s 5)
theorem csfV_none {s : ByteArray} (h : ∀ i, i < 5 → csN i ≠ s) : csfV s = (4, 0) := by unfold csfV; rw [findN_none h]; rfl
theorem csfV_some {s : ByteArray} {j : Nat} (h : ∀ i, i < j → csN i ≠ s) (hj : csN j = s) (h3 : j < 5) : csfV s = (0, (j : Int) + 1) := by unfold csfV; rw [findN_some h hj h3]; rfl
/-- The number that the model looks for. -/
def ofN (o : Option Nat) : Int := match o with
  | some i => (i : Int) + 1
  | none => 0
def csI (s : ByteArray) : Int := ofN (findN csN s 5)
theorem csI_none {s : ByteArray} (h : ∀ i, i < 5 → csN i ≠ s) : csI s = 0 := by unfold csI; rw [findN_none h]; rfl
theorem csI_some {s : ByteArray} {j : Nat} (h : ∀ i, i < j → csN i ≠ s) (hj : csN j = s) (h3 : j < 5) : csI s = (j : Int) + 1 := by unfold csI; rw [findN_some h hj h3]; rfl
theorem csfV_csI (s : ByteArray) : csI s = 0 ∧ csfV s = (4, 0) ∨ csI s ≠ 0 ∧ csfV s = (0, csI s) := by
  unfold csI csfV
  cases findN csN s 5 with
  | none => exact .inl ⟨rfl, rfl⟩
  | some i => exact .inr ⟨by show (i : Int) + 1 ≠ 0; omega, rfl⟩

set_option maxHeartbeats 1600000 in
set_option maxRecDepth 100000 in
theorem charsetOf_any (t : List Nat) (n : Nat) (w : World) (hl : t.length = n) (hB : IsB t) (hn : n ≤ 1048576) (ht : TabC w) : Calls Tryz.prog 116 #[.string (str t)] w fun e w' => IntEnd (csfV (str (t.map low))) w e w' := by
  have hb0 : Below w.heap.size w (w.alloc (.cells #[.int .i64 0, .int .i64 0] 67)) := (Below.refl _ _).alloc (Nat.le_refl _) _
  have ht0 := ht.below hb0
  have hWs : (w.alloc (.cells #[.int .i64 0, .int .i64 0] 67)).heap.size = w.heap.size + 1 := by simp
  have HS : Hid (∀ w, Calls Tryz.prog 86 #[.string (str t)] w fun e w' => e = .returned (.string (str (t.map low))) ∧ Below w.heap.size w w') := fun w => smallLetters_any t n w hl hB hn
  generalize str (t.map low) = s at *
  go_enter Tryz.func116, Tryz.ntmps116
  go_wp2_with fail
  refine (HS.out _).mono ?_
  rintro e w1 ⟨rfl, hb1⟩
  generalize hW : w.alloc (.cells #[.int .i64 0, .int .i64 0] 67) = W at *
  have hbl : Below (w.heap.size + 1) W w1 := by rw [← hWs]; exact hb1
  have ht1 := ht0.below hb1
  have hbE : Below w.heap.size w w1 := hb0.trans (hbl.mono (by omega))
  obtain ⟨hcw, hcw1, hfw, hfw1⟩ := res_block hW hbl
  clear ht ht0 hb1
  go_wp2
  go_loopw [4] (fun v wr => ∃ j : Nat, j ≤ 5 ∧ v = .int .i64 ((j : Int) + 1) ∧ (∀ i, i < j → csN i ≠ s) ∧ wr = w1) (fun v _ => 7 - (intOf v).toNat)
  case atStart => exact ⟨0, by omega, rfl, fun i hi => by omega, rfl⟩
  case round =>
    obtain ⟨j, hj, rfl, hno, rfl⟩ := hrel
    by_cases hj3 : j < 5
    · have hc := ht1 j hj3
      have hlt : 0 < wr.heap.size := World.block_lt_of_cell? _ _ hc
      have h3 : (j : Int) + 1 ≤ 5 := by omega
      have h4 : (j : Int) + 1 - 1 = (j : Int) := by omega
      have h5 : (j : Int) < 5 := by omega
      by_cases hx : csN j = s
      · have HX : Hid (csfV s = (0, (j : Int) + 1)) := csfV_some hno hx hj3
        rw [hx] at hc
        clear hno hx ht1
        obtain ⟨hk0, hk1⟩ := res_cells hcw hcw1 (.int .i64 0) (.int .i64 ((j : Int) + 1))
        go_wp2
        refine bodyPost_ret (v := .agg #[.int .i64 0, .int .i64 ((j : Int) + 1)]) (by simp [results, Tryz.results116, go_sem, hk0, hk1]) rfl ?_
        rw [HX.out]
        exact IntEnd.put hbE _ _
      · have HN : Hid (∀ i, i < j + 1 → csN i ≠ s) := fun i hi => by
          by_cases hij : i < j
          · exact hno i hij
          · have : i = j := by omega
            subst this; exact hx
        generalize csN j = x at *
        have e0 := txt_ne hx
        clear hno ht1 hcw hcw1 hfw hfw1
        go_wp2
        go_roundw
        case rel => exact ⟨j + 1, by omega, by go_num, HN.out, by trivial⟩
        case measure => simp [intOf]; omega
    · have HX : Hid (csfV s = (4, 0)) := csfV_none (fun i hi => hno i (by omega))
      have h3 : ¬ (j : Int) + 1 ≤ 5 := by omega
      obtain ⟨hk0, hk1⟩ := res_cells hcw hcw1 (.int .i64 4) (.int .i64 0)
      clear hno
      go_wp2
      refine bodyPost_ret (v := .agg #[.int .i64 4, .int .i64 0]) (by simp [results, Tryz.results116, go_sem, hk0, hk1]) rfl ?_
      rw [HX.out]
      exact IntEnd.put hbE _ _

set_option maxHeartbeats 1600000 in
set_option maxRecDepth 100000 in
theorem l2Of_any (t : List Nat) (n : Nat) (w : World) (hl : t.length = n) (hB : IsB t) (hn : n ≤ 1048576) : Calls Tryz.prog 122 #[.string (str t)] w fun e w' => e = .returned (.int .i64 (csI (str (t.map low)))) ∧ Below w.heap.size w w' := by
  have HL : Hid (∀ w, Calls Tryz.prog 93 #[.string (str t)] w fun e w' => e = .returned (.string (str (t.map low))) ∧ Below w.heap.size w w') := fun w => l2Lower_any t n w hl hB hn
  generalize str (t.map low) = s at *
  go_enter Tryz.func122, Tryz.ntmps122
  go_wp2
  go_loopw [3] (fun v wr => ∃ j : Nat, j ≤ 5 ∧ v = .int .i64 ((j : Int) + 1) ∧ (∀ i, i < j → csN i ≠ s) ∧ Below w.heap.size w wr) (fun v _ => 7 - (intOf v).toNat)
  case atStart => exact ⟨0, by omega, rfl, fun i hi => by omega, Below.refl _ _⟩
  case round =>
    obtain ⟨j, hj, rfl, hno, hbel⟩ := hrel
    have hz := hbel.size
    by_cases hj3 : j < 5
    · have h3 : (j : Int) + 1 ≤ 5 := by omega
      have HC : Hid (∀ w, Calls Tryz.prog 137 #[.int .i64 ((j : Int) + 1)] w fun e w' => e = .returned (.string (csN j)) ∧ Below w.heap.size w w') := fun w => l2Name_any j hj3 w
      have HY : Hid (csN j = s → csI s = (j : Int) + 1) := fun hx => csI_some hno hx hj3
      have HN : Hid (csN j ≠ s → ∀ i, i < j + 1 → csN i ≠ s) := fun hx i hi => by
        by_cases hij : i < j
        · exact hno i hij
        · have : i = j := by omega
          subst this; exact hx
      generalize csN j = x at *
      clear hno
      go_wp2_with fail
      refine (HC.out _).mono ?_
      rintro e w1 ⟨rfl, hb1⟩
      go_wp2_with fail
      refine (HL.out _).mono ?_
      rintro e w2 ⟨rfl, hb2⟩
      have hbl : Below w.heap.size w w2 := (hbel.trans (hb1.mono hz)).trans (hb2.mono (by have := hb1.size; omega))
      clear hb1 hb2 HC HL
      by_cases hx : x = s
      · have HX : Hid (_) := HY.out hx
        clear HY HN
        subst hx
        go_wp2
        go_ret
        exact ⟨by rw [HX.out]; rfl, hbl⟩
      · have HM : Hid (_) := HN.out hx
        have e0 := txt_ne hx
        clear HY HN
        go_wp2
        go_roundw
        case rel => exact ⟨j + 1, by omega, by go_num, HM.out, hbl⟩
        case measure => simp [intOf]; omega
    · have HX : Hid (csI s = 0) := csI_none (fun i hi => hno i (by omega))
      have h3 : ¬ (j : Int) + 1 ≤ 5 := by omega
      clear hno
      go_wp2
      go_ret
      exact ⟨by rw [HX.out]; rfl, hbel⟩

end Go.Proofs.YtfbjodbihenmjaaGreatDoor

namespace Go.Proofs.YtfbjodbihenmjaaGreatDoor
open Go.RowKit

/-- The i-th number of a list (0 behind its end). -/
def nthI (l : List Int) (i : Nat) : Int := l.getD i 0
/-- Numbers as cells. -/
def ic (l : List Int) : List Value := l.map fun (b : Int) => Value.int .i64 b

theorem nthI_get {l : List Int} {i : Nat} (h : i < l.length) : nthI l i = l[i] := by
  unfold nthI; rw [List.getD_eq_getElem?_getD, List.getElem?_eq_getElem h]; rfl

theorem ic_len (l : List Int) : (ic l).length = l.length := by simp [ic]
theorem ic_one (l : List Int) : ∀ u ∈ ic l, u.oneCell' = true := by
  intro u hu
  simp only [ic, List.mem_map] at hu
  obtain ⟨b, _, rfl⟩ := hu
  rfl
theorem ic_app (a b : List Int) : ic (a ++ b) = ic a ++ ic b := by simp [ic]
theorem ic_get {l : List Int} {i : Nat} (h : i < l.length) : (ic l)[i]? = some (.int .i64 (nthI l i)) := by
  rw [nthI_get h]; simp [ic, h]

theorem nthI_drop (l : List Int) (k i : Nat) : nthI (l.drop k) i = nthI l (k + i) := by
  simp [nthI, List.getD_eq_getElem?_getD, List.getElem?_drop]
theorem take_snocI (l : List Int) (k : Nat) (h : k < l.length) : l.take (k + 1) = l.take k ++ [nthI l k] := by
  rw [List.take_succ_eq_append_getElem h, nthI_get h]
theorem drop_consI (l : List Int) (k : Nat) (h : k < l.length) : l.drop k = nthI l k :: l.drop (k + 1) := by
  rw [nthI_get h]; exact List.drop_eq_getElem_cons h


/-- WHERE A SLICE OF BYTES IS READ: at its address stand the bytes l. -/
def RdI (w : World) (a : Option Addr) (l : List Int) : Prop :=
  l = [] ∨ ∃ b off, a = some ⟨b, off, none⟩ ∧ b < w.heap.size ∧ ∀ i, i < l.length → w.cell? ⟨b, off + i, none⟩ = some (.int .i64 (nthI l i))

theorem RdI.below {w w' : World} {a : Option Addr} {l : List Int} (h : RdI w a l) (hb : Below w.heap.size w w') : RdI w' a l := by
  rcases h with h | ⟨b, off, e, hlt, hc⟩
  · exact .inl h
  · exact .inr ⟨b, off, e, Nat.lt_of_lt_of_le hlt hb.size, fun i hi => (hb.cell (p := ⟨b, off + i, none⟩) hlt).trans (hc i hi)⟩
/-- Where there is an element there is an address. -/
theorem RdI.at_ {w : World} {a : Option Addr} {l : List Int} (h : RdI w a l) (hp : 0 < l.length) :
    ∃ b off, a = some ⟨b, off, none⟩ ∧ b < w.heap.size ∧ ∀ i, i < l.length → w.cell? ⟨b, off + i, none⟩ = some (.int .i64 (nthI l i)) := by
  rcases h with h | h
  · rw [h] at hp; simp at hp
  · exact h
theorem RdI.drop {w : World} {b off : Nat} {l : List Int} (h : RdI w (some ⟨b, off, none⟩) l) (k : Nat) : RdI w (some ⟨b, off + k, none⟩) (l.drop k) := by
  rcases h with h | ⟨b', off', e, hlt, hc⟩
  · left; simp [h]
  · obtain ⟨rfl, rfl⟩ : b = b' ∧ off = off' := by simpa using e
    right
    refine ⟨b, off + k, rfl, hlt, fun i hi => ?_⟩
    rw [List.length_drop] at hi
    rw [nthI_drop, Nat.add_assoc]
    exact hc (k + i) (by omega)


/-- A row of the call's own, read. -/
theorem RdI.own {w : World} {base e n cap : Nat} {a : Option Addr} {l : List Int} (h : w.ownsRow base e 1 (.slice a n cap) n (ic l)) : RdI w a l := by
  have hl : l.length = n := by simpa [ic_len] using h.1
  rcases h.2 with ⟨_, h0⟩ | ⟨g, cap', cur, h', _, hg, _, _, _, htake⟩
  · left; exact List.length_eq_zero_iff.1 (by omega)
  · simp only [Value.slice.injEq] at h'
    obtain ⟨rfl, _, rfl⟩ := h'
    right
    refine ⟨g, 0, rfl, ?_, fun i hi => ?_⟩
    · rcases Nat.lt_or_ge g w.heap.size with hlt | hge
      · exact hlt
      · simp [Array.getElem?_eq_none hge] at hg
    · rw [cell_of_row w g (0 + i) cur e (0, 0) hg, ← ic_get hi, ← htake, List.getElem?_take, if_pos (by omega)]
      simp


/-- What the making of a row of n bytes lays. -/
theorem made_bytesI (n : Nat) : (madeCells (Value.int .i64 0).cells (n * 1)).toList = ic (List.replicate n 0) := by
  rw [Nat.mul_one]
  show (madeCells #[Value.int .i64 0] n).toList = _
  rw [toList_madeCells_one]
  simp [ic]

/-- A copy in the making: k bytes are there, the others are 0 yet. -/
def halfI (l : List Int) (k : Nat) : List Int := l.take k ++ List.replicate (l.length - k) 0
theorem halfI_zero (l : List Int) : halfI l 0 = List.replicate l.length 0 := by simp [halfI]
theorem halfI_all (l : List Int) : halfI l l.length = l := by simp [halfI]
theorem halfI_len (l : List Int) (k : Nat) (h : k ≤ l.length) : (halfI l k).length = l.length := by simp [halfI]; omega
theorem halfI_set (l : List Int) (k : Nat) (h : k < l.length) : (ic (halfI l k)).set k (.int .i64 (nthI l k)) = ic (halfI l (k + 1)) := by
  have e : l.length - k = (l.length - (k + 1)) + 1 := by omega
  unfold halfI
  have hk : (ic (l.take k)).length = k := by simp [ic]; omega
  rw [take_snocI l k h, ic_app, List.set_append, hk, if_neg (Nat.lt_irrefl k), e, List.replicate_succ, Nat.sub_self]
  simp [ic]


/-- A slice of numbers that came in. -/
theorem IsRow.rdI {w : World} {a : Option Addr} {len cap : Nat} {zs : List Int} (h : IsRow .i64 w a len cap zs) : ∃ l : List Int, l.length = len ∧ RdI w a l ∧ len ≤ maxLen := by
  rcases h with ⟨_, rfl, _, rfl⟩ | ⟨x, rfl, hl, hm, hz, hcell, hwz⟩
  · exact ⟨[], rfl, .inl rfl, by decide⟩
  · refine ⟨zs.take len, by simp; omega, ?_, by omega⟩
    by_cases h0 : zs.length = 0
    · left
      have : zs = [] := List.length_eq_zero_iff.1 h0
      subst this; simp
    · obtain ⟨b, off, rfl, hc⟩ := ints_at hcell (by omega)
      right
      refine ⟨b, off, rfl, World.block_lt_of_cell? w _ (hc 0 (by omega)), fun i hi => ?_⟩
      have hi' : i < len := by simp at hi; omega
      have hiz : i < zs.length := by omega
      rw [hc i hiz, nthI_get hi]
      simp [hiz]
end Go.Proofs.YtfbjodbihenmjaaGreatDoor

namespace Go.Proofs.YtfbjodbihenmjaaGreatDoor
open Go.RowKit

theorem infoBI : (Tryz.prog.info? 2).map (fun i => (i.zero, i.size, i.bytes)) = some (some (.int .i64 0), 1, 8) := by kernel_rfl

end Go.Proofs.YtfbjodbihenmjaaGreatDoor
