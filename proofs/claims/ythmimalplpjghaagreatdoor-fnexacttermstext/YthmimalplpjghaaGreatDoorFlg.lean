/- The words of flags: the program's and the model's functions answer by one plain function; no conditions beyond those that each fact names. -/
import Derived.Test.YthmimalplpjghaaGreatDoorShf
import Derived.Test.YthmimalplpjghaaGreatDoorTbsToMemS
namespace Go.Proofs.YthmimalplpjghaaGreatDoor
open Go.RowKit

def flZ : List (List UInt8) := [[115, 101, 101, 110], [97, 110, 115, 119, 101, 114, 101, 100], [102, 108, 97, 103, 103, 101, 100], [100, 101, 108, 101, 116, 101, 100]]
def flN (i : Nat) : ByteArray := txt (flZ.getD i [])
def flL : List (List Nat) := [[115, 101, 101, 110], [97, 110, 115, 119, 101, 114, 101, 100], [102, 108, 97, 103, 103, 101, 100], [100, 101, 108, 101, 116, 101, 100]]
def TabF (w : World) : Prop := ∀ v, v < 4 → w.cell? ⟨1, v, none⟩ = some (.string (flN v))
theorem TabF.below {w w' : World} (h : TabF w) (hb : Below w.heap.size w w') : TabF w' := fun v hv =>
  (hb.cell (p := ⟨1, v, none⟩) (World.block_lt_of_cell? w ⟨1, 0, none⟩ (h 0 (by decide)))).trans (h v hv)
theorem ixF0 (x0 x1 x2 x3 : Value) (w : World) : (Instr.index 234 (.agg #[x0, x1, x2, x3]) (.int .i64 0)).run Tryz.prog w = .ok x0 w := by
  simp [Instr.index, go_sem]
theorem ixF1 (x0 x1 x2 x3 : Value) (w : World) : (Instr.index 234 (.agg #[x0, x1, x2, x3]) (.int .i64 1)).run Tryz.prog w = .ok x1 w := by
  simp [Instr.index, go_sem]
theorem ixF2 (x0 x1 x2 x3 : Value) (w : World) : (Instr.index 234 (.agg #[x0, x1, x2, x3]) (.int .i64 2)).run Tryz.prog w = .ok x2 w := by
  simp [Instr.index, go_sem]
theorem ixF3 (x0 x1 x2 x3 : Value) (w : World) : (Instr.index 234 (.agg #[x0, x1, x2, x3]) (.int .i64 3)).run Tryz.prog w = .ok x3 w := by
  simp [Instr.index, go_sem]

theorem ixF (j : Nat) (hj : j < 4) (w : World) : (Instr.index 234 (.agg #[.string (flN 0), .string (flN 1), .string (flN 2), .string (flN 3)]) (.int .i64 (j : Int))).run Tryz.prog w = .ok (.string (flN j)) w := by
  obtain rfl | rfl | rfl | rfl : j = 0 ∨ j = 1 ∨ j = 2 ∨ j = 3 := by omega
  · exact ixF0 _ _ _ _ w
  · exact ixF1 _ _ _ _ w
  · exact ixF2 _ _ _ _ w
  · exact ixF3 _ _ _ _ w

/-- The words of the flags k below the place j. -/
def wdK (k j : Nat) : List (List Nat) := ((List.range j).filter (fun i => k.testBit i)).map (fun i => flL.getD i [])
/-- THE TEXT OF THE FLAGS k. -/
def fxL (k : Nat) : List Nat := if k = 0 then [110, 111, 110, 101] else [32].intercalate (wdK k 4)
theorem wdK_yes {k j : Nat} (h : k.testBit j = true) : wdK k (j + 1) = wdK k j ++ [flL.getD j []] := by
  unfold wdK; rw [List.range_succ, List.filter_append, List.map_append]; simp [h]
theorem wdK_no {k j : Nat} (h : k.testBit j = false) : wdK k (j + 1) = wdK k j := by
  unfold wdK; rw [List.range_succ, List.filter_append, List.map_append]; simp [h]
theorem wdK_le (k j : Nat) : (wdK k j).length ≤ j := by
  unfold wdK; rw [List.length_map]; exact Nat.le_trans (List.length_filter_le _ _) (by simp)
theorem flBits : ∀ k : Nat, k < 16 → ∀ j : Nat, j < 4 → Go.bits BinOp.and IntKind.i64 (k : Int) (wrap64 ((2 : Int) ^ j)) = if Nat.testBit k j = true then (2 : Int) ^ j else 0 := by decide +kernel
theorem flJoin : ∀ k : Nat, k < 16 → k ≠ 0 → wdK k 4 ≠ [] ∧ Lib.join ((wdK k 4).map fun x => (str x).data.toList) [32] = (fxL k).map UInt8.ofNat ∧ (fxL k).length ≤ 40 := by decide +kernel
theorem flN_str : ∀ j : Nat, j < 4 → flN j = str (flL.getD j []) := by
  intro j hj
  obtain rfl | rfl | rfl | rfl : j = 0 ∨ j = 1 ∨ j = 2 ∨ j = 3 := by omega
  all_goals rfl

set_option maxHeartbeats 1600000 in
set_option maxRecDepth 100000 in
theorem flagsText_any (k : Nat) (w : World) (hk : k < 16) (hT : TabF w) :
    Calls Tryz.prog 109 #[.int .i64 (k : Int)] w fun e w' => e = .returned (.string (str (fxL k))) ∧ Below w.heap.size w w' := by
  by_cases h0 : k = 0
  · subst h0
    have HM : Hid (str (fxL 0) = ⟨#[110, 111, 110, 101]⟩) := rfl
    generalize str (fxL 0) = r at *
    go_enter Tryz.func109, Tryz.ntmps109
    go_wp2
    go_ret
    exact ⟨by rw [HM.out]; rfl, Below.refl _ _⟩
  have t0 := hT 0 (by decide)
  have t1 := hT 1 (by decide)
  have t2 := hT 2 (by decide)
  have t3 := hT 3 (by decide)
  have h0' : ¬ (k : Int) = 0 := by omega
  have HJ : Hid (_) := flJoin k hk h0
  have HS : Hid (∀ j, j < 4 → flN j = str (flL.getD j [])) := flN_str
  have HB : Hid (∀ j : Nat, j < 4 → Go.bits BinOp.and IntKind.i64 (k : Int) (wrap64 ((2 : Int) ^ j)) = if Nat.testBit k j = true then (2 : Int) ^ j else 0) := flBits k hk
  obtain ⟨r, hr⟩ : ∃ r, str (fxL k) = r := ⟨_, rfl⟩
  have HM : Hid ((⟨((fxL k).map UInt8.ofNat).toArray⟩ : ByteArray) = r) := hr
  rw [hr]
  clear hr
  go_enter Tryz.func109, Tryz.ntmps109
  go_wp2_with fail
  go_loopw [3, 9] (fun q i wr => ∃ j : Nat, j ≤ 4 ∧ i = .int .i64 j ∧ OwnS wr w.heap.size q (wdK k j) ∧ Below w.heap.size w wr) (fun _ i _ => 4 - (intOf i).toNat)
  case atStart => exact ⟨0, Nat.zero_le _, rfl, OwnS.nil _ _, Below.refl _ _⟩
  case round =>
    obtain ⟨j, hj, rfl, hown, hbel⟩ := hrel
    clear t0 t1 t2 t3
    by_cases hj4 : j < 4
    · have hle := wdK_le k j
      have HY : Hid (k.testBit j = true → wdK k (j + 1) = wdK k j ++ [flL.getD j []]) := wdK_yes
      have HN : Hid (k.testBit j = false → wdK k (j + 1) = wdK k j) := wdK_no
      have hb := HB.out j hj4
      have hf := HS.out j hj4
      generalize wdK k j = ws at *
      have hji : (j : Int) < 4 := by omega
      have hIx := ixF j hj4 wr
      generalize hx : flL.getD j [] = x at *
      cases hbit : Nat.testBit k j with
      | true =>
        have HW : Hid (wdK k (j + 1) = ws ++ [x]) := HY.out hbit
        obtain ⟨y, hb', hy⟩ : ∃ y : Int, Go.bits BinOp.and IntKind.i64 (k : Int) (wrap64 (2 ^ j)) = y ∧ ¬ y = 0 := ⟨_, rfl, by rw [hb, if_pos hbit]; exact Int.ne_of_gt (Int.pow_pos (by omega))⟩
        have hcs : (#[Value.string (flN j)] : Array Value).toList = sc [x] := by rw [hf]; rfl
        clear HY HN HB HS hb hbit hf hx
        obtain ⟨aw, cw, rfl, -, -⟩ := id hown.form
        go_wp2_with (at_builtin; refine wpList_app_newT (by rfl) _ _ (by rfl) w.heap.size _ ws (by rfl) hown 1 1 [x] (by rfl) (by rfl) hcs (by omega) hbel.size ?_; intro v' w1 hown' hb1; have hbel' := hbel.trans hb1; obtain ⟨a', c', rfl, hc', hcm'⟩ := hown'.form)
        go_roundw
        case rel =>
          refine ⟨_, _, _, _, ⟨j + 1, by omega, ?_, ?_⟩, rfl, rfl, rfl, rfl⟩
          · go_num
          · rw [HW.out]; simpa using hown'
        case measure => simp [intOf]; omega
      | false =>
        have HW : Hid (wdK k (j + 1) = ws) := HN.out hbit
        have hb' : Go.bits BinOp.and IntKind.i64 (k : Int) (wrap64 (2 ^ j)) = 0 := by rw [hb, hbit]; rfl
        clear HY HN HB HS hb hbit hf hx
        obtain ⟨aw, cw, rfl, -, -⟩ := id hown.form
        go_wp2
        go_roundw
        case rel => exact ⟨j + 1, by omega, by go_num, by rw [HW.out]; exact hown, hbel⟩
        case measure => simp [intOf]; omega
    · have hjj : j = 4 := by omega
      subst hjj
      have hle := wdK_le k 4
      obtain ⟨aw, cw, rfl, hwc, hwm⟩ := id hown.form
      obtain ⟨hlen, hrd⟩ := hown.rd
      have hpos : 0 < (wdK k 4).length := List.length_pos_iff.2 HJ.out.1
      obtain ⟨g, o, rfl, hglt, hcell⟩ := hrd.at_ hpos
      have HC := Tryz.strings_Join g o cw ((wdK k 4).map str) ⟨#[32]⟩ wr (fun i x hx => by
        have hi : i < (wdK k 4).length := by
          rcases Nat.lt_or_ge i (wdK k 4).length with h | h
          · exact h
          · rw [List.getElem?_eq_none (by rw [List.length_map]; exact h)] at hx; cases hx
        rw [List.getElem?_map, List.getElem?_eq_getElem hi, Option.map_some] at hx
        cases hx
        have := hcell i hi
        rw [nthS_get hi] at this
        exact this) hglt (by rw [List.length_map]; omega) (by rw [List.length_map]; exact hwc) (by
        rw [List.map_map]
        have e := HJ.out.2.1
        rw [show (List.map ((fun x => x.data.toList) ∘ str) (wdK k 4)) = ((wdK k 4).map fun x => (str x).data.toList) from rfl, show (ByteArray.mk #[32]).data.toList = [32] from rfl, e, List.length_map]
        have := HJ.out.2.2
        omega)
      rw [List.length_map, List.map_map, show (List.map ((fun x => x.data.toList) ∘ str) (wdK k 4)) = ((wdK k 4).map fun x => (str x).data.toList) from rfl, show (ByteArray.mk #[32]).data.toList = [32] from rfl, HJ.out.2.1] at HC
      rw [HM.out] at HC
      generalize (wdK k 4).length = N at *
      have hji : ¬ ((4 : Nat) : Int) < 4 := by omega
      go_wp2_with fail
      refine HC.mono ?_
      rintro e w2 ⟨rfl, hb2⟩
      have hbw := hbel.trans (hb2.mono hbel.size)
      clear HC
      go_wp2
      go_ret
      exact ⟨rfl, hbw⟩
end Go.Proofs.YthmimalplpjghaaGreatDoor
