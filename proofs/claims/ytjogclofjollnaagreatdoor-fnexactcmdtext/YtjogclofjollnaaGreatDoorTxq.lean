/- The text of a tree of terms, the program's: kind by kind; no conditions beyond those that each fact names. -/
import Derived.Test.YtjogclofjollnaaGreatDoorTkwToIto
namespace Go.Proofs.YtjogclofjollnaaGreatDoor
open Go.RowKit
set_option linter.unusedVariables false
theorem tt1 (k : Nat) (hk : k < 12) (s : List Nat) (hs : s.length ≤ 10000000) (w : World) (hT : TabT w) :
  Calls Tryz.prog 123 #[.int .i64 (k : Int), .slice (some ⟨w.heap.size, 0, none⟩) 1 1] (w.alloc (.cells #[.string (str s)] 9)) fun e w' => e = .returned (.string (str (twN k ++ [32] ++ s))) ∧ Below w.heap.size w w' := by
 have hb0 : Below w.heap.size w (w.alloc (.cells #[.string (str s)] 9)) := (Below.refl _ _).alloc (Nat.le_refl _) _
 have HO : OwnS (w.alloc (.cells #[.string (str s)] 9)) w.heap.size (.slice (some ⟨w.heap.size, 0, none⟩) 1 1) [s] := OwnS.lit w w.heap.size (Nat.le_refl _) _ [s] rfl (show 1 ≤ maxLen by unfold maxLen; omega)
 have := twN_len k
 exact (termText_n k hk w.heap.size 1 [s] _ (hT.below hb0) HO.rd.2 rfl (Nat.le_refl _) (by omega) (twN k ++ [32] ++ s) (jn2 _ _) (by simp; omega)).mono fun e w' h => ⟨h.1, hb0.trans (h.2.mono hb0.size)⟩
theorem tt2 (k : Nat) (hk : k < 12) (s t : List Nat) (hs : s.length ≤ 10000000) (ht : t.length ≤ 10000000) (w : World) (hT : TabT w) :
  Calls Tryz.prog 123 #[.int .i64 (k : Int), .slice (some ⟨w.heap.size, 0, none⟩) 2 2] (w.alloc (.cells #[.string (str s), .string (str t)] 9)) fun e w' => e = .returned (.string (str (twN k ++ [32] ++ s ++ [32] ++ t))) ∧ Below w.heap.size w w' := by
 have hb0 : Below w.heap.size w (w.alloc (.cells #[.string (str s), .string (str t)] 9)) := (Below.refl _ _).alloc (Nat.le_refl _) _
 have HO : OwnS (w.alloc (.cells #[.string (str s), .string (str t)] 9)) w.heap.size (.slice (some ⟨w.heap.size, 0, none⟩) 2 2) [s, t] := OwnS.lit w w.heap.size (Nat.le_refl _) _ [s, t] rfl (show 2 ≤ maxLen by unfold maxLen; omega)
 have := twN_len k
 exact (termText_n k hk w.heap.size 2 [s, t] _ (hT.below hb0) HO.rd.2 rfl (by omega) (Nat.le_refl _) (twN k ++ [32] ++ s ++ [32] ++ t) (jn3 _ _ _) (by simp; omega)).mono fun e w' h => ⟨h.1, hb0.trans (h.2.mono hb0.size)⟩
set_option maxHeartbeats 1600000 in
set_option maxRecDepth 100000 in
theorem treeText_2 (j : Nat) (hj : j < 16) (w : World) (hT : TabT w) (hF : TabF w) :
  Calls Tryz.prog 107 #[.iface 174 (.agg #[.int .i64 (j : Int)])] w fun e w' => e = .returned (.string (str (twN 2 ++ [32] ++ fxL j))) ∧ Below w.heap.size w w' := by
 have ta2 : ∀ (x : Value) (w : World), (Instr.typeAssert (.iface 174 x) 133 174 true).run Tryz.prog w = .ok (.tuple #[x, .bool true]) w := fun _ _ => by kernel_rfl
 have hb0 : Below w.heap.size w (w.alloc (.cells #[.int .i64 (j : Int)] 174)) := (Below.refl _ _).alloc (Nat.le_refl _) _
 have HT1 : Hid (∀ W, Below w.heap.size w W → Calls Tryz.prog 123 #[.int .i64 2, .slice (some ⟨W.heap.size, 0, none⟩) 1 1] (W.alloc (.cells #[.string (str (fxL j))] 9)) fun e w' => e = .returned (.string (str (twN 2 ++ [32] ++ fxL j))) ∧ Below W.heap.size W w') := fun W h => tt1 2 (by omega) _ (Nat.le_trans (fxL_len hj) (by omega)) W (hT.below h)
 have HC := flagsText_any j _ hj (hF.below hb0)
 generalize twN 2 ++ [32] ++ fxL j = r at *
 generalize fxL j = x at *
 go_enter Tryz.func107, Tryz.ntmps107
 go_wp2_with fail
 refine HC.mono ?_
 rintro e w1 ⟨rfl, hb1⟩
 have hB1 := hb0.trans (hb1.mono hb0.size)
 clear HC
 go_wp2_with fail
 refine (HT1.out _ hB1).mono ?_
 rintro e w2 ⟨rfl, hb2⟩
 have hB2 := hB1.trans (hb2.mono hB1.size)
 go_wp2
 go_ret
 exact ⟨rfl, hB2⟩
set_option maxHeartbeats 1600000 in
set_option maxRecDepth 100000 in
theorem treeText_3 (j : Nat) (hj : j ≤ 9999) (w : World) (hT : TabT w) (hW : TabW w) :
  Calls Tryz.prog 107 #[.iface 177 (.agg #[.int .i64 (j : Int)])] w fun e w' => e = .returned (.string (str (twN 3 ++ [32] ++ dgF 3 j))) ∧ Below w.heap.size w w' := by
 have ta2 : ∀ (x : Value) (w : World), (Instr.typeAssert (.iface 177 x) 133 174 true).run Tryz.prog w = .ok (.tuple #[.agg #[.int .i64 0], .bool false]) w := fun _ _ => by kernel_rfl
 have ta3 : ∀ (x : Value) (w : World), (Instr.typeAssert (.iface 177 x) 133 177 true).run Tryz.prog w = .ok (.tuple #[x, .bool true]) w := fun _ _ => by kernel_rfl
 have hb0 : Below w.heap.size w (w.alloc (.cells #[.int .i64 (j : Int)] 177)) := (Below.refl _ _).alloc (Nat.le_refl _) _
 have HT1 : Hid (∀ W, Below w.heap.size w W → Calls Tryz.prog 123 #[.int .i64 3, .slice (some ⟨W.heap.size, 0, none⟩) 1 1] (W.alloc (.cells #[.string (str (dgF 3 j))] 9)) fun e w' => e = .returned (.string (str (twN 3 ++ [32] ++ dgF 3 j))) ∧ Below W.heap.size W w') := fun W h => tt1 3 (by omega) _ (Nat.le_trans (dgF_len 3 j) (by omega)) W (hT.below h)
 have HC := (Tryz.strconv_FormatInt_10 (j : Int) (by omega) (by omega) _ (hW.below hb0)).mono fun e w' h => (show e = .returned (.string (str (dgF 3 j))) ∧ Below (w.alloc (.cells #[.int .i64 (j : Int)] 177)).heap.size (w.alloc (.cells #[.int .i64 (j : Int)] 177)) w' from by
  obtain ⟨rfl, kk, os, rfl⟩ := h
  exact ⟨by rw [itoa4_str hj], Lib.below_grow _ _ (Nat.le_refl _) kk os⟩)
 generalize twN 3 ++ [32] ++ dgF 3 j = r at *
 generalize dgF 3 j = x at *
 go_enter Tryz.func107, Tryz.ntmps107
 go_wp2_with fail
 refine HC.mono ?_
 rintro e w1 ⟨rfl, hb1⟩
 have hB1 := hb0.trans (hb1.mono hb0.size)
 clear HC
 go_wp2_with fail
 refine (HT1.out _ hB1).mono ?_
 rintro e w2 ⟨rfl, hb2⟩
 have hB2 := hB1.trans (hb2.mono hB1.size)
 go_wp2
 go_ret
 exact ⟨rfl, hB2⟩
set_option maxHeartbeats 1600000 in
set_option maxRecDepth 100000 in
theorem treeText_4 (j : Nat) (hj : j ≤ 9999) (w : World) (hT : TabT w) (hW : TabW w) :
  Calls Tryz.prog 107 #[.iface 178 (.agg #[.int .i64 (j : Int)])] w fun e w' => e = .returned (.string (str (twN 4 ++ [32] ++ dgF 3 j))) ∧ Below w.heap.size w w' := by
 have ta2 : ∀ (x : Value) (w : World), (Instr.typeAssert (.iface 178 x) 133 174 true).run Tryz.prog w = .ok (.tuple #[.agg #[.int .i64 0], .bool false]) w := fun _ _ => by kernel_rfl
 have ta3 : ∀ (x : Value) (w : World), (Instr.typeAssert (.iface 178 x) 133 177 true).run Tryz.prog w = .ok (.tuple #[.agg #[.int .i64 0], .bool false]) w := fun _ _ => by kernel_rfl
 have ta4 : ∀ (x : Value) (w : World), (Instr.typeAssert (.iface 178 x) 133 178 true).run Tryz.prog w = .ok (.tuple #[x, .bool true]) w := fun _ _ => by kernel_rfl
 have hb0 : Below w.heap.size w (w.alloc (.cells #[.int .i64 (j : Int)] 178)) := (Below.refl _ _).alloc (Nat.le_refl _) _
 have HT1 : Hid (∀ W, Below w.heap.size w W → Calls Tryz.prog 123 #[.int .i64 4, .slice (some ⟨W.heap.size, 0, none⟩) 1 1] (W.alloc (.cells #[.string (str (dgF 3 j))] 9)) fun e w' => e = .returned (.string (str (twN 4 ++ [32] ++ dgF 3 j))) ∧ Below W.heap.size W w') := fun W h => tt1 4 (by omega) _ (Nat.le_trans (dgF_len 3 j) (by omega)) W (hT.below h)
 have HC := (Tryz.strconv_FormatInt_10 (j : Int) (by omega) (by omega) _ (hW.below hb0)).mono fun e w' h => (show e = .returned (.string (str (dgF 3 j))) ∧ Below (w.alloc (.cells #[.int .i64 (j : Int)] 178)).heap.size (w.alloc (.cells #[.int .i64 (j : Int)] 178)) w' from by
  obtain ⟨rfl, kk, os, rfl⟩ := h
  exact ⟨by rw [itoa4_str hj], Lib.below_grow _ _ (Nat.le_refl _) kk os⟩)
 generalize twN 4 ++ [32] ++ dgF 3 j = r at *
 generalize dgF 3 j = x at *
 go_enter Tryz.func107, Tryz.ntmps107
 go_wp2_with fail
 refine HC.mono ?_
 rintro e w1 ⟨rfl, hb1⟩
 have hB1 := hb0.trans (hb1.mono hb0.size)
 clear HC
 go_wp2_with fail
 refine (HT1.out _ hB1).mono ?_
 rintro e w2 ⟨rfl, hb2⟩
 have hB2 := hB1.trans (hb2.mono hB1.size)
 go_wp2
 go_ret
 exact ⟨rfl, hB2⟩
set_option maxHeartbeats 1600000 in
set_option maxRecDepth 100000 in
theorem treeText_5 (j : Nat) (hj : j ≤ 9999) (w : World) (hT : TabT w) (hW : TabW w) :
  Calls Tryz.prog 107 #[.iface 180 (.agg #[.int .i64 (j : Int)])] w fun e w' => e = .returned (.string (str (twN 5 ++ [32] ++ dgF 3 j))) ∧ Below w.heap.size w w' := by
 have ta2 : ∀ (x : Value) (w : World), (Instr.typeAssert (.iface 180 x) 133 174 true).run Tryz.prog w = .ok (.tuple #[.agg #[.int .i64 0], .bool false]) w := fun _ _ => by kernel_rfl
 have ta3 : ∀ (x : Value) (w : World), (Instr.typeAssert (.iface 180 x) 133 177 true).run Tryz.prog w = .ok (.tuple #[.agg #[.int .i64 0], .bool false]) w := fun _ _ => by kernel_rfl
 have ta4 : ∀ (x : Value) (w : World), (Instr.typeAssert (.iface 180 x) 133 178 true).run Tryz.prog w = .ok (.tuple #[.agg #[.int .i64 0], .bool false]) w := fun _ _ => by kernel_rfl
 have ta5 : ∀ (x : Value) (w : World), (Instr.typeAssert (.iface 180 x) 133 180 true).run Tryz.prog w = .ok (.tuple #[x, .bool true]) w := fun _ _ => by kernel_rfl
 have hb0 : Below w.heap.size w (w.alloc (.cells #[.int .i64 (j : Int)] 180)) := (Below.refl _ _).alloc (Nat.le_refl _) _
 have HT1 : Hid (∀ W, Below w.heap.size w W → Calls Tryz.prog 123 #[.int .i64 5, .slice (some ⟨W.heap.size, 0, none⟩) 1 1] (W.alloc (.cells #[.string (str (dgF 3 j))] 9)) fun e w' => e = .returned (.string (str (twN 5 ++ [32] ++ dgF 3 j))) ∧ Below W.heap.size W w') := fun W h => tt1 5 (by omega) _ (Nat.le_trans (dgF_len 3 j) (by omega)) W (hT.below h)
 have HC := (Tryz.strconv_FormatInt_10 (j : Int) (by omega) (by omega) _ (hW.below hb0)).mono fun e w' h => (show e = .returned (.string (str (dgF 3 j))) ∧ Below (w.alloc (.cells #[.int .i64 (j : Int)] 180)).heap.size (w.alloc (.cells #[.int .i64 (j : Int)] 180)) w' from by
  obtain ⟨rfl, kk, os, rfl⟩ := h
  exact ⟨by rw [itoa4_str hj], Lib.below_grow _ _ (Nat.le_refl _) kk os⟩)
 generalize twN 5 ++ [32] ++ dgF 3 j = r at *
 generalize dgF 3 j = x at *
 go_enter Tryz.func107, Tryz.ntmps107
 go_wp2_with fail
 refine HC.mono ?_
 rintro e w1 ⟨rfl, hb1⟩
 have hB1 := hb0.trans (hb1.mono hb0.size)
 clear HC
 go_wp2_with fail
 refine (HT1.out _ hB1).mono ?_
 rintro e w2 ⟨rfl, hb2⟩
 have hB2 := hB1.trans (hb2.mono hB1.size)
 go_wp2
 go_ret
 exact ⟨rfl, hB2⟩
set_option maxHeartbeats 1600000 in
set_option maxRecDepth 100000 in
theorem treeText_6 (a : Option Addr) (n cap : Nat) (l : List Int) (hl : l.length = n) (hn : n ≤ 1048576) (w : World) (hT : TabT w) (hr : RdI w a l) :
  Calls Tryz.prog 107 #[.iface 182 (.agg #[.slice a n cap])] w fun e w' => e = .returned (.string (str (twN 6 ++ [32] ++ (encT 4 l).2))) ∧ Below w.heap.size w w' := by
 have ta2 : ∀ (x : Value) (w : World), (Instr.typeAssert (.iface 182 x) 133 174 true).run Tryz.prog w = .ok (.tuple #[.agg #[.int .i64 0], .bool false]) w := fun _ _ => by kernel_rfl
 have ta3 : ∀ (x : Value) (w : World), (Instr.typeAssert (.iface 182 x) 133 177 true).run Tryz.prog w = .ok (.tuple #[.agg #[.int .i64 0], .bool false]) w := fun _ _ => by kernel_rfl
 have ta4 : ∀ (x : Value) (w : World), (Instr.typeAssert (.iface 182 x) 133 178 true).run Tryz.prog w = .ok (.tuple #[.agg #[.int .i64 0], .bool false]) w := fun _ _ => by kernel_rfl
 have ta5 : ∀ (x : Value) (w : World), (Instr.typeAssert (.iface 182 x) 133 180 true).run Tryz.prog w = .ok (.tuple #[.agg #[.int .i64 0], .bool false]) w := fun _ _ => by kernel_rfl
 have ta6 : ∀ (x : Value) (w : World), (Instr.typeAssert (.iface 182 x) 133 182 true).run Tryz.prog w = .ok (.tuple #[x, .bool true]) w := fun _ _ => by kernel_rfl
 have hb0 : Below w.heap.size w (w.alloc (.cells #[.slice a n cap] 182)) := (Below.refl _ _).alloc (Nat.le_refl _) _
 have HT1 : Hid (∀ W, Below w.heap.size w W → Calls Tryz.prog 123 #[.int .i64 6, .slice (some ⟨W.heap.size, 0, none⟩) 1 1] (W.alloc (.cells #[.string (str ((encT 4 l).2))] 9)) fun e w' => e = .returned (.string (str (twN 6 ++ [32] ++ (encT 4 l).2))) ∧ Below W.heap.size W w') := fun W h => tt1 6 (by omega) _ (Nat.le_trans (encT_few 4 l) (by omega)) W (hT.below h)
 have HC := charsText_any a n cap l _ hl (hr.below hb0) hn
 generalize twN 6 ++ [32] ++ (encT 4 l).2 = r at *
 generalize (encT 4 l).2 = x at *
 clear hl hr hn
 go_enter Tryz.func107, Tryz.ntmps107
 go_wp2_with fail
 refine HC.mono ?_
 rintro e w1 ⟨rfl, hb1⟩
 have hB1 := hb0.trans (hb1.mono hb0.size)
 clear HC
 go_wp2_with fail
 refine (HT1.out _ hB1).mono ?_
 rintro e w2 ⟨rfl, hb2⟩
 have hB2 := hB1.trans (hb2.mono hB1.size)
 go_wp2
 go_ret
 exact ⟨rfl, hB2⟩
set_option maxHeartbeats 1600000 in
set_option maxRecDepth 100000 in
theorem treeText_7 (a : Option Addr) (n cap : Nat) (l : List Int) (hl : l.length = n) (hn : n ≤ 1048576) (w : World) (hT : TabT w) (hr : RdI w a l) :
  Calls Tryz.prog 107 #[.iface 183 (.agg #[.slice a n cap])] w fun e w' => e = .returned (.string (str (twN 7 ++ [32] ++ (encT 4 l).2))) ∧ Below w.heap.size w w' := by
 have ta2 : ∀ (x : Value) (w : World), (Instr.typeAssert (.iface 183 x) 133 174 true).run Tryz.prog w = .ok (.tuple #[.agg #[.int .i64 0], .bool false]) w := fun _ _ => by kernel_rfl
 have ta3 : ∀ (x : Value) (w : World), (Instr.typeAssert (.iface 183 x) 133 177 true).run Tryz.prog w = .ok (.tuple #[.agg #[.int .i64 0], .bool false]) w := fun _ _ => by kernel_rfl
 have ta4 : ∀ (x : Value) (w : World), (Instr.typeAssert (.iface 183 x) 133 178 true).run Tryz.prog w = .ok (.tuple #[.agg #[.int .i64 0], .bool false]) w := fun _ _ => by kernel_rfl
 have ta5 : ∀ (x : Value) (w : World), (Instr.typeAssert (.iface 183 x) 133 180 true).run Tryz.prog w = .ok (.tuple #[.agg #[.int .i64 0], .bool false]) w := fun _ _ => by kernel_rfl
 have ta6 : ∀ (x : Value) (w : World), (Instr.typeAssert (.iface 183 x) 133 182 true).run Tryz.prog w = .ok (.tuple #[.agg #[.slice none 0 0], .bool false]) w := fun _ _ => by kernel_rfl
 have ta7 : ∀ (x : Value) (w : World), (Instr.typeAssert (.iface 183 x) 133 183 true).run Tryz.prog w = .ok (.tuple #[x, .bool true]) w := fun _ _ => by kernel_rfl
 have hb0 : Below w.heap.size w (w.alloc (.cells #[.slice a n cap] 183)) := (Below.refl _ _).alloc (Nat.le_refl _) _
 have HT1 : Hid (∀ W, Below w.heap.size w W → Calls Tryz.prog 123 #[.int .i64 7, .slice (some ⟨W.heap.size, 0, none⟩) 1 1] (W.alloc (.cells #[.string (str ((encT 4 l).2))] 9)) fun e w' => e = .returned (.string (str (twN 7 ++ [32] ++ (encT 4 l).2))) ∧ Below W.heap.size W w') := fun W h => tt1 7 (by omega) _ (Nat.le_trans (encT_few 4 l) (by omega)) W (hT.below h)
 have HC := charsText_any a n cap l _ hl (hr.below hb0) hn
 generalize twN 7 ++ [32] ++ (encT 4 l).2 = r at *
 generalize (encT 4 l).2 = x at *
 clear hl hr hn
 go_enter Tryz.func107, Tryz.ntmps107
 go_wp2_with fail
 refine HC.mono ?_
 rintro e w1 ⟨rfl, hb1⟩
 have hB1 := hb0.trans (hb1.mono hb0.size)
 clear HC
 go_wp2_with fail
 refine (HT1.out _ hB1).mono ?_
 rintro e w2 ⟨rfl, hb2⟩
 have hB2 := hB1.trans (hb2.mono hB1.size)
 go_wp2
 go_ret
 exact ⟨rfl, hB2⟩
set_option maxHeartbeats 1600000 in
set_option maxRecDepth 100000 in
theorem treeText_8 (a : Option Addr) (n cap : Nat) (l : List YgP) (hl : l.length = n) (hn : n ≤ 1048576) (hok : rfV l = 0) (w : World) (hT : TabT w) (hr : RdY w a l) (hW : TabW w) :
  Calls Tryz.prog 107 #[.iface 185 (.agg #[.slice a n cap])] w fun e w' => e = .returned (.string (str (twN 8 ++ [32] ++ txY l))) ∧ Below w.heap.size w w' := by
 have ta2 : ∀ (x : Value) (w : World), (Instr.typeAssert (.iface 185 x) 133 174 true).run Tryz.prog w = .ok (.tuple #[.agg #[.int .i64 0], .bool false]) w := fun _ _ => by kernel_rfl
 have ta3 : ∀ (x : Value) (w : World), (Instr.typeAssert (.iface 185 x) 133 177 true).run Tryz.prog w = .ok (.tuple #[.agg #[.int .i64 0], .bool false]) w := fun _ _ => by kernel_rfl
 have ta4 : ∀ (x : Value) (w : World), (Instr.typeAssert (.iface 185 x) 133 178 true).run Tryz.prog w = .ok (.tuple #[.agg #[.int .i64 0], .bool false]) w := fun _ _ => by kernel_rfl
 have ta5 : ∀ (x : Value) (w : World), (Instr.typeAssert (.iface 185 x) 133 180 true).run Tryz.prog w = .ok (.tuple #[.agg #[.int .i64 0], .bool false]) w := fun _ _ => by kernel_rfl
 have ta6 : ∀ (x : Value) (w : World), (Instr.typeAssert (.iface 185 x) 133 182 true).run Tryz.prog w = .ok (.tuple #[.agg #[.slice none 0 0], .bool false]) w := fun _ _ => by kernel_rfl
 have ta7 : ∀ (x : Value) (w : World), (Instr.typeAssert (.iface 185 x) 133 183 true).run Tryz.prog w = .ok (.tuple #[.agg #[.slice none 0 0], .bool false]) w := fun _ _ => by kernel_rfl
 have ta8 : ∀ (x : Value) (w : World), (Instr.typeAssert (.iface 185 x) 133 185 true).run Tryz.prog w = .ok (.tuple #[x, .bool true]) w := fun _ _ => by kernel_rfl
 have hb0 : Below w.heap.size w (w.alloc (.cells #[.slice a n cap] 185)) := (Below.refl _ _).alloc (Nat.le_refl _) _
 have HT1 : Hid (∀ W, Below w.heap.size w W → Calls Tryz.prog 123 #[.int .i64 8, .slice (some ⟨W.heap.size, 0, none⟩) 1 1] (W.alloc (.cells #[.string (str (txY l))] 9)) fun e w' => e = .returned (.string (str (twN 8 ++ [32] ++ txY l))) ∧ Below W.heap.size W w') := fun W h => tt1 8 (by omega) _ (Nat.le_trans (txY_len l) (by omega)) W (hT.below h)
 have hst : stT l = (0, txY l) := if_pos hok
 have HC := setText_any a n cap l _ hl (hr.below hb0) hn (hW.below hb0)
 rw [hst] at HC
 have HF := fldTx
 generalize twN 8 ++ [32] ++ txY l = r at *
 generalize txY l = x at *
 clear hl hr hn hst
 go_enter Tryz.func107, Tryz.ntmps107
 go_wp2_with fail
 refine HC.mono ?_
 rintro e w1 ⟨rfl, hb1⟩
 have hB1 := hb0.trans (hb1.mono hb0.size)
 clear HC
 go_wp2_with fail
 refine (HT1.out _ hB1).mono ?_
 rintro e w2 ⟨rfl, hb2⟩
 have hB2 := hB1.trans (hb2.mono hB1.size)
 go_wp2
 go_ret
 exact ⟨rfl, hB2⟩
set_option maxHeartbeats 1600000 in
set_option maxRecDepth 100000 in
theorem treeText_1  (w : World) (hT : TabT w) :
  Calls Tryz.prog 107 #[.iface 200 (.agg #[])] w fun e w' => e = .returned (.string (str (twN 1))) ∧ Below w.heap.size w w' := by
 have ta2 : ∀ (x : Value) (w : World), (Instr.typeAssert (.iface 200 x) 133 174 true).run Tryz.prog w = .ok (.tuple #[.agg #[.int .i64 0], .bool false]) w := fun _ _ => by kernel_rfl
 have ta3 : ∀ (x : Value) (w : World), (Instr.typeAssert (.iface 200 x) 133 177 true).run Tryz.prog w = .ok (.tuple #[.agg #[.int .i64 0], .bool false]) w := fun _ _ => by kernel_rfl
 have ta4 : ∀ (x : Value) (w : World), (Instr.typeAssert (.iface 200 x) 133 178 true).run Tryz.prog w = .ok (.tuple #[.agg #[.int .i64 0], .bool false]) w := fun _ _ => by kernel_rfl
 have ta5 : ∀ (x : Value) (w : World), (Instr.typeAssert (.iface 200 x) 133 180 true).run Tryz.prog w = .ok (.tuple #[.agg #[.int .i64 0], .bool false]) w := fun _ _ => by kernel_rfl
 have ta6 : ∀ (x : Value) (w : World), (Instr.typeAssert (.iface 200 x) 133 182 true).run Tryz.prog w = .ok (.tuple #[.agg #[.slice none 0 0], .bool false]) w := fun _ _ => by kernel_rfl
 have ta7 : ∀ (x : Value) (w : World), (Instr.typeAssert (.iface 200 x) 133 183 true).run Tryz.prog w = .ok (.tuple #[.agg #[.slice none 0 0], .bool false]) w := fun _ _ => by kernel_rfl
 have ta8 : ∀ (x : Value) (w : World), (Instr.typeAssert (.iface 200 x) 133 185 true).run Tryz.prog w = .ok (.tuple #[.agg #[.slice none 0 0], .bool false]) w := fun _ _ => by kernel_rfl
 have ta9 : ∀ (x : Value) (w : World), (Instr.typeAssert (.iface 200 x) 133 187 true).run Tryz.prog w = .ok (.tuple #[.agg #[.nilIface], .bool false]) w := fun _ _ => by kernel_rfl
 have ta10 : ∀ (x : Value) (w : World), (Instr.typeAssert (.iface 200 x) 133 189 true).run Tryz.prog w = .ok (.tuple #[.agg #[.nilIface, .nilIface], .bool false]) w := fun _ _ => by kernel_rfl
 have ta11 : ∀ (x : Value) (w : World), (Instr.typeAssert (.iface 200 x) 133 190 true).run Tryz.prog w = .ok (.tuple #[.agg #[.nilIface, .nilIface], .bool false]) w := fun _ _ => by kernel_rfl
 have HT1 := termText_0 w hT
 generalize str (twN 1) = r at *
 go_enter Tryz.func107, Tryz.ntmps107
 go_wp2_with fail
 refine HT1.mono ?_
 rintro e w2 ⟨rfl, hb2⟩
 go_wp2
 go_ret
 exact ⟨rfl, hb2⟩
set_option maxHeartbeats 1600000 in
set_option maxRecDepth 100000 in
theorem treeText_9 (t : TypeId) (u : Value) (x : List Nat) (hx : x.length ≤ 9999000) (w : World) (hT : TabT w) (HC : Hid (∀ W, Below w.heap.size w W → Calls Tryz.prog 107 #[.iface t u] W fun e w' => e = .returned (.string (str x)) ∧ Below W.heap.size W w')) :
  Calls Tryz.prog 107 #[.iface 187 (.agg #[.iface t u])] w fun e w' => e = .returned (.string (str (twN 9 ++ [32] ++ x))) ∧ Below w.heap.size w w' := by
 have ta2 : ∀ (x : Value) (w : World), (Instr.typeAssert (.iface 187 x) 133 174 true).run Tryz.prog w = .ok (.tuple #[.agg #[.int .i64 0], .bool false]) w := fun _ _ => by kernel_rfl
 have ta3 : ∀ (x : Value) (w : World), (Instr.typeAssert (.iface 187 x) 133 177 true).run Tryz.prog w = .ok (.tuple #[.agg #[.int .i64 0], .bool false]) w := fun _ _ => by kernel_rfl
 have ta4 : ∀ (x : Value) (w : World), (Instr.typeAssert (.iface 187 x) 133 178 true).run Tryz.prog w = .ok (.tuple #[.agg #[.int .i64 0], .bool false]) w := fun _ _ => by kernel_rfl
 have ta5 : ∀ (x : Value) (w : World), (Instr.typeAssert (.iface 187 x) 133 180 true).run Tryz.prog w = .ok (.tuple #[.agg #[.int .i64 0], .bool false]) w := fun _ _ => by kernel_rfl
 have ta6 : ∀ (x : Value) (w : World), (Instr.typeAssert (.iface 187 x) 133 182 true).run Tryz.prog w = .ok (.tuple #[.agg #[.slice none 0 0], .bool false]) w := fun _ _ => by kernel_rfl
 have ta7 : ∀ (x : Value) (w : World), (Instr.typeAssert (.iface 187 x) 133 183 true).run Tryz.prog w = .ok (.tuple #[.agg #[.slice none 0 0], .bool false]) w := fun _ _ => by kernel_rfl
 have ta8 : ∀ (x : Value) (w : World), (Instr.typeAssert (.iface 187 x) 133 185 true).run Tryz.prog w = .ok (.tuple #[.agg #[.slice none 0 0], .bool false]) w := fun _ _ => by kernel_rfl
 have ta9 : ∀ (x : Value) (w : World), (Instr.typeAssert (.iface 187 x) 133 187 true).run Tryz.prog w = .ok (.tuple #[x, .bool true]) w := fun _ _ => by kernel_rfl
 have hb0 : Below w.heap.size w (w.alloc (.cells #[.iface t u] 187)) := (Below.refl _ _).alloc (Nat.le_refl _) _
 have HT1 : Hid (∀ W, Below w.heap.size w W → Calls Tryz.prog 123 #[.int .i64 9, .slice (some ⟨W.heap.size, 0, none⟩) 1 1] (W.alloc (.cells #[.string (str (x))] 9)) fun e w' => e = .returned (.string (str (twN 9 ++ [32] ++ x))) ∧ Below W.heap.size W w') := fun W h => tt1 9 (by omega) _ (by omega) W (hT.below h)
 generalize twN 9 ++ [32] ++ x = r at *
 go_enter Tryz.func107, Tryz.ntmps107
 go_wp2_with fail
 refine (HC.out _ hb0).mono ?_
 rintro e w1 ⟨rfl, hb1⟩
 have hB1 := hb0.trans (hb1.mono hb0.size)
 clear HC
 go_wp2_with fail
 refine (HT1.out _ hB1).mono ?_
 rintro e w2 ⟨rfl, hb2⟩
 have hB2 := hB1.trans (hb2.mono hB1.size)
 go_wp2
 go_ret
 exact ⟨rfl, hB2⟩
set_option maxHeartbeats 1600000 in
set_option maxRecDepth 100000 in
theorem treeText_10 (t t2 : TypeId) (u u2 : Value) (x y : List Nat) (hx : x.length ≤ 9999000) (hy : y.length ≤ 9999000) (w : World) (hT : TabT w) (HC : Hid (∀ W, Below w.heap.size w W → Calls Tryz.prog 107 #[.iface t u] W fun e w' => e = .returned (.string (str x)) ∧ Below W.heap.size W w')) (HD : Hid (∀ W, Below w.heap.size w W → Calls Tryz.prog 107 #[.iface t2 u2] W fun e w' => e = .returned (.string (str y)) ∧ Below W.heap.size W w')) :
  Calls Tryz.prog 107 #[.iface 189 (.agg #[.iface t u, .iface t2 u2])] w fun e w' => e = .returned (.string (str (twN 10 ++ [32] ++ x ++ [32] ++ y))) ∧ Below w.heap.size w w' := by
 have ta2 : ∀ (x : Value) (w : World), (Instr.typeAssert (.iface 189 x) 133 174 true).run Tryz.prog w = .ok (.tuple #[.agg #[.int .i64 0], .bool false]) w := fun _ _ => by kernel_rfl
 have ta3 : ∀ (x : Value) (w : World), (Instr.typeAssert (.iface 189 x) 133 177 true).run Tryz.prog w = .ok (.tuple #[.agg #[.int .i64 0], .bool false]) w := fun _ _ => by kernel_rfl
 have ta4 : ∀ (x : Value) (w : World), (Instr.typeAssert (.iface 189 x) 133 178 true).run Tryz.prog w = .ok (.tuple #[.agg #[.int .i64 0], .bool false]) w := fun _ _ => by kernel_rfl
 have ta5 : ∀ (x : Value) (w : World), (Instr.typeAssert (.iface 189 x) 133 180 true).run Tryz.prog w = .ok (.tuple #[.agg #[.int .i64 0], .bool false]) w := fun _ _ => by kernel_rfl
 have ta6 : ∀ (x : Value) (w : World), (Instr.typeAssert (.iface 189 x) 133 182 true).run Tryz.prog w = .ok (.tuple #[.agg #[.slice none 0 0], .bool false]) w := fun _ _ => by kernel_rfl
 have ta7 : ∀ (x : Value) (w : World), (Instr.typeAssert (.iface 189 x) 133 183 true).run Tryz.prog w = .ok (.tuple #[.agg #[.slice none 0 0], .bool false]) w := fun _ _ => by kernel_rfl
 have ta8 : ∀ (x : Value) (w : World), (Instr.typeAssert (.iface 189 x) 133 185 true).run Tryz.prog w = .ok (.tuple #[.agg #[.slice none 0 0], .bool false]) w := fun _ _ => by kernel_rfl
 have ta9 : ∀ (x : Value) (w : World), (Instr.typeAssert (.iface 189 x) 133 187 true).run Tryz.prog w = .ok (.tuple #[.agg #[.nilIface], .bool false]) w := fun _ _ => by kernel_rfl
 have ta10 : ∀ (x : Value) (w : World), (Instr.typeAssert (.iface 189 x) 133 189 true).run Tryz.prog w = .ok (.tuple #[x, .bool true]) w := fun _ _ => by kernel_rfl
 have hb0 : Below w.heap.size w (w.alloc (.cells #[.iface t u, .iface t2 u2] 189)) := (Below.refl _ _).alloc (Nat.le_refl _) _
 have HT1 : Hid (∀ W, Below w.heap.size w W → Calls Tryz.prog 123 #[.int .i64 10, .slice (some ⟨W.heap.size, 0, none⟩) 2 2] (W.alloc (.cells #[.string (str x), .string (str y)] 9)) fun e w' => e = .returned (.string (str (twN 10 ++ [32] ++ x ++ [32] ++ y))) ∧ Below W.heap.size W w') := fun W h => tt2 10 (by omega) _ _ (by omega) (by omega) W (hT.below h)
 have HS : Hid (∀ W, Below ((w.alloc (.cells #[.iface t u, .iface t2 u2] 189))).heap.size ((w.alloc (.cells #[.iface t u, .iface t2 u2] 189))).drew W → W.cell? ⟨w.heap.size, 0, none⟩ = some (.iface t u) ∧ W.cell? ⟨w.heap.size, 1, none⟩ = some (.iface t2 u2)) := fun W h => ⟨(h.cell (p := ⟨w.heap.size, 0, none⟩) (by simp)).trans (by simp), (h.cell (p := ⟨w.heap.size, 1, none⟩) (by simp)).trans (by simp)⟩
 generalize twN 10 ++ [32] ++ x ++ [32] ++ y = r at *
 go_enter Tryz.func107, Tryz.ntmps107
 go_wp2_with fail
 refine wp_region_held_drew (S := (fun w' => w'.cell? ⟨w.heap.size, 0, none⟩ = some (.iface t u) ∧ w'.cell? ⟨w.heap.size, 1, none⟩ = some (.iface t2 u2))) (by kernel_rfl) ?hS10 (fun hHeld => ?_)
 case hS10 => exact ⟨by simp, by simp⟩
 refine tk (i := 0) (v := ?_) rfl (Or.inl ⟨by rfl, ?hz1000⟩) ?tz1000
 case hz1000 => (intro w' hSw; obtain ⟨e0, e1⟩ := hSw; go_simp; all_goals with_reducible rfl)
 simp only [Act.put, J1, J2, J4, J5, J6]
 refine tk (i := 1) (v := ?_) rfl (Or.inl ⟨by rfl, ?hz1001⟩) ?tz1001
 case hz1001 => (intro w' hSw; obtain ⟨e0, e1⟩ := hSw; go_simp; all_goals with_reducible rfl)
 simp only [Act.put, J1, J2, J3, J4, J5, J6]
 refine tk (i := 3) (v := ?_) rfl (Or.inl ⟨by rfl, ?hz1003⟩) ?tz1003
 case hz1003 => (intro w' hSw; obtain ⟨e0, e1⟩ := hSw; go_simp; all_goals with_reducible rfl)
 simp only [Act.put, J1, J2, J3, J4, J5, J6]
 refine tk (i := 4) (v := ?_) rfl (Or.inl ⟨by rfl, ?hz1004⟩) ?tz1004
 case hz1004 => (intro w' hSw; obtain ⟨e0, e1⟩ := hSw; go_simp; all_goals with_reducible rfl)
 simp only [Act.put, J1, J2, J3, J4, J5, J6]
 refine wpAnyH_ready (rs := [2]) (by kernel_rfl) (by simp) ?_
 refine AllReadyH.cons rfl (fun K hK => ?_) AllReadyH.nil
 go_simp
 refine (HC.out _ hb0.drew).mono ?_
 rintro e w1 ⟨rfl, hb1⟩
 have hB1 : Below w.heap.size w w1 := hb0.drew.trans (hb1.mono (by simp))
 have hS1 := HS.out _ hb1
 refine hK.out _ _ hS1 (fun hHeld => ?_)
 clear hK K
 try simp only [Act.put, J1, J2, J3, J4, J5, J6]
 refine wpAnyH_ready (rs := [5]) (by kernel_rfl) (by simp) ?_
 refine AllReadyH.cons rfl (fun K hK => ?_) AllReadyH.nil
 go_simp
 refine (HD.out _ hB1).mono ?_
 rintro e w2 ⟨rfl, hb2⟩
 have hB2 := hB1.trans (hb2.mono hB1.size)
 have hS2 := HS.out _ (hb1.trans (hb2.mono hb1.size))
 refine hK.out _ _ hS2 (fun hHeld => ?_)
 clear hK K
 try simp only [Act.put, J1, J2, J3, J4, J5, J6]
 refine wpAnyH_ready (rs := [6]) (by kernel_rfl) (by simp) ?_
 refine AllReadyH.cons rfl (fun K hK => ?_) AllReadyH.nil
 go_simp
 refine hK.out _ _ ?hT10 (fun hHeld => ?_)
 case hT10 => exact HS.out _ ((hb1.trans (hb2.mono hb1.size)).alloc (by have := hb1.size; have := hb2.size; simp at *; omega) _)
 clear hK K
 try simp only [Act.put, J1, J2, J3, J4, J5, J6]
 refine wpAnyH_ready (rs := [7]) (by kernel_rfl) (by simp) ?_
 refine AllReadyH.cons rfl (fun K hK => ?_) AllReadyH.nil
 go_simp
 refine (HT1.out _ hB2).mono ?_
 rintro e w3 ⟨rfl, hb3⟩
 have hB3 := hB2.trans (hb3.mono hB2.size)
 refine hK.out _ _ ?hU10 (fun hHeld => ?_)
 case hU10 => exact HS.out _ ((hb1.trans (hb2.mono hb1.size)).trans (hb3.mono (by have := hb1.size; have := hb2.size; simp at *; omega)))
 clear hK K
 try simp only [Act.put, J1, J2, J3, J4, J5, J6]
 refine tk (i := 8) (v := ?_) rfl (Or.inl ⟨by rfl, ?hz1008⟩) ?tz1008
 case hz1008 => (intro w' hSw; obtain ⟨e0, e1⟩ := hSw; go_simp; all_goals with_reducible rfl)
 simp only [Act.put, J1, J2, J3, J4, J5, J6]
 refine wpAnyH_done (by kernel_rfl) ?_ _
 clear hHeld
 go_wp2
 go_ret
 exact ⟨rfl, hB3⟩
set_option maxHeartbeats 1600000 in
set_option maxRecDepth 100000 in
theorem treeText_11 (t t2 : TypeId) (u u2 : Value) (x y : List Nat) (hx : x.length ≤ 9999000) (hy : y.length ≤ 9999000) (w : World) (hT : TabT w) (HC : Hid (∀ W, Below w.heap.size w W → Calls Tryz.prog 107 #[.iface t u] W fun e w' => e = .returned (.string (str x)) ∧ Below W.heap.size W w')) (HD : Hid (∀ W, Below w.heap.size w W → Calls Tryz.prog 107 #[.iface t2 u2] W fun e w' => e = .returned (.string (str y)) ∧ Below W.heap.size W w')) :
  Calls Tryz.prog 107 #[.iface 190 (.agg #[.iface t u, .iface t2 u2])] w fun e w' => e = .returned (.string (str (twN 11 ++ [32] ++ x ++ [32] ++ y))) ∧ Below w.heap.size w w' := by
 have ta2 : ∀ (x : Value) (w : World), (Instr.typeAssert (.iface 190 x) 133 174 true).run Tryz.prog w = .ok (.tuple #[.agg #[.int .i64 0], .bool false]) w := fun _ _ => by kernel_rfl
 have ta3 : ∀ (x : Value) (w : World), (Instr.typeAssert (.iface 190 x) 133 177 true).run Tryz.prog w = .ok (.tuple #[.agg #[.int .i64 0], .bool false]) w := fun _ _ => by kernel_rfl
 have ta4 : ∀ (x : Value) (w : World), (Instr.typeAssert (.iface 190 x) 133 178 true).run Tryz.prog w = .ok (.tuple #[.agg #[.int .i64 0], .bool false]) w := fun _ _ => by kernel_rfl
 have ta5 : ∀ (x : Value) (w : World), (Instr.typeAssert (.iface 190 x) 133 180 true).run Tryz.prog w = .ok (.tuple #[.agg #[.int .i64 0], .bool false]) w := fun _ _ => by kernel_rfl
 have ta6 : ∀ (x : Value) (w : World), (Instr.typeAssert (.iface 190 x) 133 182 true).run Tryz.prog w = .ok (.tuple #[.agg #[.slice none 0 0], .bool false]) w := fun _ _ => by kernel_rfl
 have ta7 : ∀ (x : Value) (w : World), (Instr.typeAssert (.iface 190 x) 133 183 true).run Tryz.prog w = .ok (.tuple #[.agg #[.slice none 0 0], .bool false]) w := fun _ _ => by kernel_rfl
 have ta8 : ∀ (x : Value) (w : World), (Instr.typeAssert (.iface 190 x) 133 185 true).run Tryz.prog w = .ok (.tuple #[.agg #[.slice none 0 0], .bool false]) w := fun _ _ => by kernel_rfl
 have ta9 : ∀ (x : Value) (w : World), (Instr.typeAssert (.iface 190 x) 133 187 true).run Tryz.prog w = .ok (.tuple #[.agg #[.nilIface], .bool false]) w := fun _ _ => by kernel_rfl
 have ta10 : ∀ (x : Value) (w : World), (Instr.typeAssert (.iface 190 x) 133 189 true).run Tryz.prog w = .ok (.tuple #[.agg #[.nilIface, .nilIface], .bool false]) w := fun _ _ => by kernel_rfl
 have ta11 : ∀ (x : Value) (w : World), (Instr.typeAssert (.iface 190 x) 133 190 true).run Tryz.prog w = .ok (.tuple #[x, .bool true]) w := fun _ _ => by kernel_rfl
 have hb0 : Below w.heap.size w (w.alloc (.cells #[.iface t u, .iface t2 u2] 190)) := (Below.refl _ _).alloc (Nat.le_refl _) _
 have HT1 : Hid (∀ W, Below w.heap.size w W → Calls Tryz.prog 123 #[.int .i64 11, .slice (some ⟨W.heap.size, 0, none⟩) 2 2] (W.alloc (.cells #[.string (str x), .string (str y)] 9)) fun e w' => e = .returned (.string (str (twN 11 ++ [32] ++ x ++ [32] ++ y))) ∧ Below W.heap.size W w') := fun W h => tt2 11 (by omega) _ _ (by omega) (by omega) W (hT.below h)
 have HS : Hid (∀ W, Below ((w.alloc (.cells #[.iface t u, .iface t2 u2] 190))).heap.size ((w.alloc (.cells #[.iface t u, .iface t2 u2] 190))).drew W → W.cell? ⟨w.heap.size, 0, none⟩ = some (.iface t u) ∧ W.cell? ⟨w.heap.size, 1, none⟩ = some (.iface t2 u2)) := fun W h => ⟨(h.cell (p := ⟨w.heap.size, 0, none⟩) (by simp)).trans (by simp), (h.cell (p := ⟨w.heap.size, 1, none⟩) (by simp)).trans (by simp)⟩
 generalize twN 11 ++ [32] ++ x ++ [32] ++ y = r at *
 go_enter Tryz.func107, Tryz.ntmps107
 go_wp2_with fail
 refine wp_region_held_drew (S := (fun w' => w'.cell? ⟨w.heap.size, 0, none⟩ = some (.iface t u) ∧ w'.cell? ⟨w.heap.size, 1, none⟩ = some (.iface t2 u2))) (by kernel_rfl) ?hS11 (fun hHeld => ?_)
 case hS11 => exact ⟨by simp, by simp⟩
 refine tk (i := 0) (v := ?_) rfl (Or.inl ⟨by rfl, ?hz1100⟩) ?tz1100
 case hz1100 => (intro w' hSw; obtain ⟨e0, e1⟩ := hSw; go_simp; all_goals with_reducible rfl)
 simp only [Act.put, J1, J2, J4, J5, J6]
 refine tk (i := 1) (v := ?_) rfl (Or.inl ⟨by rfl, ?hz1101⟩) ?tz1101
 case hz1101 => (intro w' hSw; obtain ⟨e0, e1⟩ := hSw; go_simp; all_goals with_reducible rfl)
 simp only [Act.put, J1, J2, J3, J4, J5, J6]
 refine tk (i := 3) (v := ?_) rfl (Or.inl ⟨by rfl, ?hz1103⟩) ?tz1103
 case hz1103 => (intro w' hSw; obtain ⟨e0, e1⟩ := hSw; go_simp; all_goals with_reducible rfl)
 simp only [Act.put, J1, J2, J3, J4, J5, J6]
 refine tk (i := 4) (v := ?_) rfl (Or.inl ⟨by rfl, ?hz1104⟩) ?tz1104
 case hz1104 => (intro w' hSw; obtain ⟨e0, e1⟩ := hSw; go_simp; all_goals with_reducible rfl)
 simp only [Act.put, J1, J2, J3, J4, J5, J6]
 refine wpAnyH_ready (rs := [2]) (by kernel_rfl) (by simp) ?_
 refine AllReadyH.cons rfl (fun K hK => ?_) AllReadyH.nil
 go_simp
 refine (HC.out _ hb0.drew).mono ?_
 rintro e w1 ⟨rfl, hb1⟩
 have hB1 : Below w.heap.size w w1 := hb0.drew.trans (hb1.mono (by simp))
 have hS1 := HS.out _ hb1
 refine hK.out _ _ hS1 (fun hHeld => ?_)
 clear hK K
 try simp only [Act.put, J1, J2, J3, J4, J5, J6]
 refine wpAnyH_ready (rs := [5]) (by kernel_rfl) (by simp) ?_
 refine AllReadyH.cons rfl (fun K hK => ?_) AllReadyH.nil
 go_simp
 refine (HD.out _ hB1).mono ?_
 rintro e w2 ⟨rfl, hb2⟩
 have hB2 := hB1.trans (hb2.mono hB1.size)
 have hS2 := HS.out _ (hb1.trans (hb2.mono hb1.size))
 refine hK.out _ _ hS2 (fun hHeld => ?_)
 clear hK K
 try simp only [Act.put, J1, J2, J3, J4, J5, J6]
 refine wpAnyH_ready (rs := [6]) (by kernel_rfl) (by simp) ?_
 refine AllReadyH.cons rfl (fun K hK => ?_) AllReadyH.nil
 go_simp
 refine hK.out _ _ ?hT11 (fun hHeld => ?_)
 case hT11 => exact HS.out _ ((hb1.trans (hb2.mono hb1.size)).alloc (by have := hb1.size; have := hb2.size; simp at *; omega) _)
 clear hK K
 try simp only [Act.put, J1, J2, J3, J4, J5, J6]
 refine wpAnyH_ready (rs := [7]) (by kernel_rfl) (by simp) ?_
 refine AllReadyH.cons rfl (fun K hK => ?_) AllReadyH.nil
 go_simp
 refine (HT1.out _ hB2).mono ?_
 rintro e w3 ⟨rfl, hb3⟩
 have hB3 := hB2.trans (hb3.mono hB2.size)
 refine hK.out _ _ ?hU11 (fun hHeld => ?_)
 case hU11 => exact HS.out _ ((hb1.trans (hb2.mono hb1.size)).trans (hb3.mono (by have := hb1.size; have := hb2.size; simp at *; omega)))
 clear hK K
 try simp only [Act.put, J1, J2, J3, J4, J5, J6]
 refine tk (i := 8) (v := ?_) rfl (Or.inl ⟨by rfl, ?hz1108⟩) ?tz1108
 case hz1108 => (intro w' hSw; obtain ⟨e0, e1⟩ := hSw; go_simp; all_goals with_reducible rfl)
 simp only [Act.put, J1, J2, J3, J4, J5, J6]
 refine wpAnyH_done (by kernel_rfl) ?_ _
 clear hHeld
 go_wp2
 go_ret
 exact ⟨rfl, hB3⟩
end Go.Proofs.YtjogclofjollnaaGreatDoor
