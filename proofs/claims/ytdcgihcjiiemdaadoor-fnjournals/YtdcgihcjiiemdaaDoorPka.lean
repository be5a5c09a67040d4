/- Two bytes of a number, and of a sum; appends of a name and of a number; slices put behind one another: the program's; no conditions beyond those that each fact names. -/
import Derived.Test.YtdcgihcjiiemdaaDoorJpl
import Derived.Test.YtdcgihcjiiemdaaDoorGrxToDrk
import Derived.Test.YtdcgihcjiiemdaaDoorBmbToDr12
namespace Go.Proofs.YtdcgihcjiiemdaaDoor
open Go.RowKit
abbrev prV (n : Nat) : Value := .agg #[.int .u8 ((n : Int) / 256), .int .u8 ((n : Int) % 256)]
set_option maxHeartbeats 800000 in
set_option maxRecDepth 100000 in
theorem pairOf_any (n : Nat) (w : World) (hn : n < 65536) : Calls Tryd.prog 32 #[.int .i64 (n : Int)] w fun e w' => e = .returned (prV n) ∧ Below w.heap.size w w' := by
 have hb : Below w.heap.size w (w.alloc (.cells #[.int .u8 ((n : Int) / 256), .int .u8 ((n : Int) % 256)] 55)) := (Below.refl _ _).alloc (Nat.le_refl _) _
 go_enter Tryd.func32, Tryd.ntmps32
 go_wp2
 refine bodyPost_ret (v := prV n) (by simp [results, Tryd.results32, go_sem]) rfl ?_
 exact ⟨rfl, hb⟩
theorem ofIntJ (a : Nat) (ha : a < 4611686018427387904) : (BitVec.ofInt 64 (a : Int)).toNat = a := by
 rw [BitVec.ofInt_natCast, BitVec.toNat_ofNat]; omega
theorem orJ (a b : Nat) (ha : a < 4611686018427387904) (hb : b < 4611686018427387904) : bits .or .i64 (a : Int) (b : Int) = ((a ||| b : Nat) : Int) := by
 have hx : a ||| b < 2 ^ 62 := Nat.or_lt_two_pow (by omega) (by omega)
 show IntKind.i64.wrap ((BitVec.ofInt 64 (a : Int) ||| BitVec.ofInt 64 (b : Int)).toNat : Int) = _
 rw [BitVec.toNat_or, ofIntJ a ha, ofIntJ b hb]
 exact IntWalk.i64_in _ (by omega)
theorem orJ256 (a b : Nat) (ha : a < 4294967296) (hb : b < 256) : bits .or .i64 ((a : Int) * 256) (b : Int) = ((a * 256 + b : Nat) : Int) := by
 have h := orJ (a * 256) b (by omega) (by omega)
 have e : a * 256 + b = a * 256 ||| b := by
  have := Nat.two_pow_add_eq_or_of_lt (i := 8) (b := b) (by omega) a
  rw [show 2 ^ 8 * a = a * 256 by omega] at this
  exact this
 rw [e, ← h]
 rfl
set_option maxHeartbeats 800000 in
set_option maxRecDepth 100000 in
theorem number_any (n : Nat) (w : World) (hn : n < 65536) : Calls Tryd.prog 76 #[prV n] w fun e w' => e = .returned (.int .i64 (n : Int)) ∧ Below w.heap.size w w' := by
 have hb : Below w.heap.size w (w.alloc (.cells #[.int .u8 ((n : Int) / 256), .int .u8 ((n : Int) % 256)] 55)) := (Below.refl _ _).alloc (Nat.le_refl _) _
 have e : bits .or .i64 ((n : Int) / 256 * 256) ((n : Int) % 256) = (n : Int) := by
  have := orJ256 (n / 256) (n % 256) (by omega) (by omega)
  rw [show n / 256 * 256 + n % 256 = n by omega] at this
  exact this
 go_enter Tryd.func76, Tryd.ntmps76
 go_wp2
 go_ret
 exact ⟨rfl, hb⟩
set_option maxHeartbeats 800000 in
set_option maxRecDepth 100000 in
theorem with_any (s b : Nat) (w : World) (hs : s < 65536) (hb : b < 256) : Calls Tryd.prog 65 #[prV s, .int .u8 (b : Int)] w fun e w' => e = .returned (prV ((s * 31 + b) % 65521)) ∧ Below w.heap.size w w' := by
 obtain ⟨m, hm⟩ : ∃ m, m = (s * 31 + b) % 65521 := ⟨_, rfl⟩
 have hm1 : m < 65536 := by omega
 have hme : ((s : Int) * 31 + (b : Int)) % 65521 = (m : Int) := by rw [hm]; omega
 rw [← hm]
 clear hm
 have hb1 : Below w.heap.size w (w.alloc (.cells #[.int .u8 ((s : Int) / 256), .int .u8 ((s : Int) % 256)] 55)) := (Below.refl _ _).alloc (Nat.le_refl _) _
 have hs1 : (w.alloc (.cells #[.int .u8 ((s : Int) / 256), .int .u8 ((s : Int) % 256)] 55)).heap.size = w.heap.size + 1 := by simp
 obtain ⟨W, hW⟩ : ∃ W, (w.alloc (.cells #[.int .u8 ((s : Int) / 256), .int .u8 ((s : Int) % 256)] 55)).alloc (.cells #[.int .u8 0, .int .u8 0] 55) = W := ⟨_, rfl⟩
 have hW2 : W.heap.size = w.heap.size + 1 + 1 := by rw [← hW]; simp
 have HW : Hid (∀ wr, Below (w.heap.size + 1 + 1) W wr → _) := fun wr hb => res_block hW (by rw [hs1]; exact hb)
 have hbW : Below w.heap.size w W := by rw [← hW]; exact hb1.alloc (by rw [hs1]; omega) _
 have hc0 : W.cell? ⟨w.heap.size, 0, none⟩ = some (.int .u8 ((s : Int) / 256)) := by rw [← hW]; simp
 have hc1 : W.cell? ⟨w.heap.size, 1, none⟩ = some (.int .u8 ((s : Int) % 256)) := by rw [← hW]; simp
 rw [hs1] at HW
 clear hb1 hs1
 go_enter Tryd.func65, Tryd.ntmps65
 go_wp2_with fail
 refine (number_any s W hs).mono ?_
 rintro e w1 ⟨rfl, h1⟩
 go_wp2_with fail
 refine (pairOf_any m w1 hm1).mono ?_
 rintro e w2 ⟨rfl, h2⟩
 have h12 : Below W.heap.size W w2 := h1.trans (h2.mono h1.size)
 obtain ⟨a0, a1, z0, z1⟩ := HW.out w2 (by rw [← hW2]; exact h12)
 obtain ⟨k0, k1⟩ := res_cells a0 a1 (.int .u8 ((m : Int) / 256)) (.int .u8 ((m : Int) % 256))
 have hB : Below w.heap.size w w2 := hbW.trans (h12.mono hbW.size)
 clear h12 h1 h2
 go_wp2
 refine bodyPost_ret (v := prV m) (by simp [results, Tryd.results65, go_sem, k0, k1]) rfl ?_
 exact ⟨rfl, (hB.setCell (by simp) _).setCell (by simp) _⟩
theorem src_one {w : World} {x : Int} (b : Nat) (hx : x = (b : Int)) : Go.Src Tryd.prog 1 22 (.slice (some ⟨w.heap.size, 0, none⟩) 1 1) 1 (bc [b]) (w.alloc (.cells #[.int .u8 x] 5)) :=
 src_slice rfl (.inr ⟨w.heap.size, 0, rfl, by simp, fun i hi => by
  obtain rfl : i = 0 := by simpa using hi
  simp [nth, hx]⟩) (fun h => by cases h)
theorem src_two {w : World} {x y : Int} (t : TypeId) (b c : Nat) (hx : x = (b : Int)) (hy : y = (c : Int)) (cp : Nat) : Go.Src Tryd.prog 1 22 (.slice (some ⟨w.heap.size, 0, none⟩) 2 cp) 2 (bc [b, c]) (w.alloc (.cells #[.int .u8 x, .int .u8 y] t)) :=
 src_slice rfl (.inr ⟨w.heap.size, 0, rfl, by simp, fun i hi => by
  have hi2 : i < 2 := by simpa using hi
  obtain rfl | rfl : i = 0 ∨ i = 1 := by omega
  ·simp [nth, hx]
  ·simp [nth, hy]⟩) (fun h => by cases h)
def ApEnd (B : Nat) (l : List Nat) (w : World) (e : Ending) (w' : World) : Prop := ∃ v', e = .returned v' ∧ Gr w' B v' l ∧ Below B w w'
set_option maxHeartbeats 800000 in
set_option maxRecDepth 100000 in
theorem appendName_any (B : Nat) (v : Value) (l t : List Nat) (w : World) (hv : Gr w B v l) (hB : B ≤ w.heap.size) (hl : l.length ≤ 1000000) (ht : t.length ≤ 255) (hBt : IsB t) :
  Calls Tryd.prog 62 #[v, .string (str t)] w fun e w' => ApEnd B (l ++ (t.length :: t)) w e w' := by
 obtain ⟨n, hn⟩ : ∃ n, t.length = n := ⟨_, rfl⟩
 have hsz : (str t).size = n := by rw [str_size, hn]
 have hst : Hid (Go.Src Tryd.prog 1 9 (.string (str t)) n (bc t) w) := by rw [← hn]; exact src_text t hBt
 have hn2 : n ≤ 255 := by omega
 have HE : Hid (l ++ (t.length :: t) = (l ++ [n]) ++ t) := by show _ = _; rw [hn]; simp
 have HN : Hid (t.length = n) := hn
 have l1 : (l ++ [n]).length = l.length + 1 := by simp
 have l2 : ((l ++ [n]) ++ t).length = l.length + 1 + n := by simp; omega
 clear hn
 go_enter Tryd.func62, Tryd.ntmps62
 go_wp2_with (first
  | (at_builtin; refine wpList_app_grx rfl _ _ 22 rfl B _ l (by rfl) (hv.alloc _) _ _ [n] (by rfl) (src_one n rfl) rfl (by simp; omega) (by simp; omega) ?_; intro v1 w1 hg1 hb1; have hB1 : Below B w w1 := ((Below.refl _ _).alloc hB _).trans hb1; have hz1 : B ≤ w1.heap.size := Nat.le_trans hB hB1.size; obtain ⟨g6, cp6, rfl, -⟩ := id hg1; rw [l1] at hg1 ⊢)
  | (at_builtin; refine wpList_app_grx rfl _ _ 9 rfl B _ (l ++ [n]) (by rfl) hg1 _ _ t (by rfl) (by rw [← HN.out]; exact src_text t hBt) HN.out (by simp; omega) hz1 ?_; intro v2 w2 hg2 hb2; have hB2 := hB1.trans hb2; obtain ⟨g7, cp7, rfl, -⟩ := id hg2; rw [l2] at hg2 ⊢))
 go_ret
 refine ⟨_, rfl, ?_, hB2⟩
 rw [HE.out]
 exact hg2
set_option maxHeartbeats 800000 in
set_option maxRecDepth 100000 in
theorem appendPair_any (B : Nat) (v : Value) (l : List Nat) (n : Nat) (w : World) (hv : Gr w B v l) (hB : B ≤ w.heap.size) (hl : l.length ≤ 1000000) (hn : n < 65536) :
  Calls Tryd.prog 63 #[v, .int .i64 (n : Int)] w fun e w' => ApEnd B (l ++ twoB n) w e w' := by
 have e1 : (n : Int) / 256 = ((n / 256 % 256 : Nat) : Int) := by omega
 have e2 : (n : Int) % 256 = ((n % 256 : Nat) : Int) := by omega
 have HT : Hid (∀ w : World, Go.Src Tryd.prog 1 22 (.slice (some ⟨w.heap.size, 0, none⟩) 2 2) 2 (bc (twoB n)) (w.alloc (.cells #[.int .u8 ((n : Int) / 256), .int .u8 ((n : Int) % 256)] 55))) := fun w => src_two _ _ _ e1 e2 2
 clear e1 e2
 have HL2 : Hid ((twoB n).length = 2) := rfl
 have l2 : (l ++ twoB n).length = l.length + 2 := by rw [List.length_append]; rfl
 go_enter Tryd.func63, Tryd.ntmps63
 go_wp2_with fail
 refine (pairOf_any n w hn).mono ?_
 rintro e w1 ⟨rfl, h1⟩
 have hv1 := hv.below h1 (Nat.le_refl _)
 have hB1 : Below B w w1 := h1.mono hB
 have hz1 : B ≤ w1.heap.size := Nat.le_trans hB hB1.size
 clear hv h1
 go_wp2_with (at_builtin; refine wpList_app_grx rfl _ _ 22 rfl B _ l (by rfl) (hv1.alloc _) _ _ (twoB n) (by rfl) (HT.out w1) HL2.out (by omega) (by simp; omega) ?_; intro v2 w2 hg2 hb2; have hB2 := hB1.trans (((Below.refl _ _).alloc hz1 _).trans hb2); obtain ⟨g7, cp7, rfl, -⟩ := id hg2; rw [l2] at hg2 ⊢)
 go_ret
 exact ⟨_, rfl, hg2, hB2⟩
theorem smJ_lt : ∀ (l : List Nat) (s : Nat), s < 65536 → smJ s l < 65536
 | [], _, h => h
 | b :: l, s, _ => smJ_lt l ((s * 31 + b) % 65521) (by omega)
theorem smJ_snoc (s : Nat) (l : List Nat) (k : Nat) (h : k < l.length) : smJ s (l.take (k + 1)) = (smJ s (l.take k) * 31 + nth l k) % 65521 := by
 rw [take_snoc l k h]
 unfold smJ
 rw [List.foldl_append]
 rfl
end Go.Proofs.YtdcgihcjiiemdaaDoor
