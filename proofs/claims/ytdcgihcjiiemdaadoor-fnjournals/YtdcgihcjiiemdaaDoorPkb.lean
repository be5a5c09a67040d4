/- Slices put behind one another, and the sum of some bytes: the program's; no conditions beyond those that each fact names. -/
import Derived.Test.YtdcgihcjiiemdaaDoorPka
import Derived.Lib.AppendZerosOnto
namespace Go.Proofs.YtdcgihcjiiemdaaDoor
open Go.RowKit
theorem Gr.zeros (w : World) (B cap : Nat) (hB : B ≤ w.heap.size) (cs : Array Value) (hs : cap ≤ cs.size) (hm : cap ≤ maxLen) : Gr (w.alloc (.cells cs 5)) B (.slice (some ⟨w.heap.size, 0, none⟩) 0 cap) [] := by
 refine ⟨w.heap.size, cap, rfl, hB, hm, rfl, Nat.zero_le _, by simp, fun i hi => absurd hi (Nat.not_lt_zero _), fun i hi => ⟨?_, ?_⟩⟩
 ·rw [World.cell?_alloc_mark, Array.getElem?_eq_getElem (by omega)]; rfl
 ·simp
theorem run_app_zeros (w : World) (ty : TypeId) (n : Nat) (h0 : 0 < n) (hn : n ≤ 1000000) :
  ∃ cap w1, (Builtin.append_ #[22, 3] ty #[.slice none 0 0, .int .i64 (n : Int)]).run Tryd.prog w = .ok (.slice (some ⟨w.heap.size, 0, none⟩) n cap) w1 ∧ n ≤ cap ∧ cap ≤ maxLen ∧ Gr w1 w.heap.size (.slice (some ⟨w.heap.size, 0, none⟩) 0 cap) [] ∧ Below w.heap.size w w1 := by
 obtain ⟨i, hi, hz, hsize, hby⟩ := info_parts infoB
 have hold : (Builtin.firstCells i.size 0 (.slice none 0 0)).run Tryd.prog w.drew = .ok ([] : List Value).toArray w.drew := run_firstCells_none w.drew i.size 0 0 0
 have h := Lib.run_append_grow_zeros (P := Tryd.prog) w 22 3 ty 5 i (.int .u8 0) .i64 .i64 Tryd.underlying22 Tryd.underlying3 hi hz none 0 0 [] hold n h0 (by omega) (by omega) (by omega) (by rw [hby]; omega) (growslice_fits (by omega) (by rw [hby]; omega))
 simp only [Nat.zero_add] at h
 have hge := grownCap_ge w n 0 5
 have hle := grownCap_le_maxLen w n 0 5 (by unfold maxLen; omega)
 refine ⟨_, _, h, hge, hle, Gr.zeros w.drew w.heap.size _ (Nat.le_refl _) _ ?_ hle, ((Below.refl _ _).drew).alloc (Nat.le_refl _) _⟩
 simp only [Array.size_append, size_zeroCells, List.size_toArray, List.length_nil]
 show _ ≤ 0 + n * 1 + (grownCap w n 0 5 - n) * 1
 omega
theorem wpList_app_zeros {w : World} {ops : Array Oper} {rest : List Oper} {o : Oper} {a : Act} {Q : Exit → Act → World → Prop} (hgd : o.guard = none) (s x : Operand)
  (ho : o.op = .call { callee := .builtin .append, args := #[s, x], argTypes := #[22, 3] }) (n : Nat) (hs : a.eval s = .slice none 0 0) (hx : a.eval x = .int .i64 (n : Int)) (h0 : 0 < n) (hn : n ≤ 1000000)
  (h : ∀ cap w1, n ≤ cap → cap ≤ maxLen → Gr w1 w.heap.size (.slice (some ⟨w.heap.size, 0, none⟩) 0 cap) [] → Below w.heap.size w w1 → wpList Tryd.prog ops Q rest (a.put o.dst (.slice (some ⟨w.heap.size, 0, none⟩) n cap)) w1) : wpList Tryd.prog ops Q (o :: rest) a w := by
 refine wpList_plain hgd fun K hK => ?_
 obtain ⟨cap, w1, hrun, h1, h2, h3, h4⟩ := run_app_zeros w o.type n h0 hn
 unfold Oper.wp
 simp [execOp, ho, resolve, invoke, builtin, hs, hx, hrun, Result.andThen]
 exact hK _ _ (h cap w1 h1 h2 h3 h4)
set_option maxHeartbeats 800000 in
set_option maxRecDepth 100000 in
theorem growNil_any (n : Nat) (w : World) (h0 : 0 < n) (hn : n ≤ 1000000) :
  Calls Tryd.prog 64 #[.slice none 0 0, .int .i64 (n : Int)] w fun e w' => ApEnd w.heap.size [] w e w' := by
 have hg : (n : Int) > 0 := by omega
 have hg' : ¬ (n : Int) < 0 := by omega
 go_enter Tryd.func64, Tryd.ntmps64
 go_wp2_with (at_builtin; refine wpList_app_zeros rfl _ _ rfl n (by rfl) (by rfl) h0 hn ?_; intro cap w1 hc hm hG hB; have hm' : cap ≤ 9223372036854775807 := hm)
 go_ret
 exact ⟨_, rfl, hG, hB⟩
set_option maxHeartbeats 1600000 in
set_option maxRecDepth 100000 in
theorem concat2_any (g : Nat) (a0 a1 : Option Addr) (n0 c0 n1 c1 : Nat) (l0 l1 : List Nat) (w : World) (h0 : w.cell? ⟨g, 0, none⟩ = some (.slice a0 n0 c0)) (h1 : w.cell? ⟨g, 1, none⟩ = some (.slice a1 n1 c1)) (e0 : l0.length = n0) (e1 : l1.length = n1) (r0 : Rd w a0 l0) (r1 : Rd w a1 l1) (z0 : a0 = none → n0 = 0) (z1 : a1 = none → n1 = 0) (hp : 0 < n0) (hm0 : n0 ≤ 400000) (hm1 : n1 ≤ 400000) :
  Calls Tryd.prog 33 #[.slice (some ⟨g, 0, none⟩) 2 2] w fun e w' => ApEnd w.heap.size (l0 ++ l1) w e w' := by
 have hglt : g < w.heap.size := World.block_lt_of_cell? w ⟨g, 0, none⟩ h0
 have HC : Hid (∀ wr, Below w.heap.size w wr → wr.cell? ⟨g, 0, none⟩ = some (.slice a0 n0 c0) ∧ wr.cell? ⟨g, 1, none⟩ = some (.slice a1 n1 c1) ∧ Rd wr a0 l0 ∧ Rd wr a1 l1) := fun wr hb => ⟨(hb.cell (p := ⟨g, 0, none⟩) hglt).trans h0, (hb.cell (p := ⟨g, 1, none⟩) hglt).trans h1, r0.below hb, r1.below hb⟩
 have HZ0 : Hid (a0 = none → n0 = 0) := z0
 have HZ1 : Hid (a1 = none → n1 = 0) := z1
 have HE0 : Hid (l0.length = n0) := e0
 have HE1 : Hid (l1.length = n1) := e1
 have hl1 : ([] ++ l0).length = n0 := by simpa using e0
 have hl2 : (([] ++ l0) ++ l1).length = n0 + n1 := by simp; omega
 clear z0 z1 r0 r1 e0 e1
 go_enter Tryd.func33, Tryd.ntmps33
 go_wp2
 go_loop [3, 11] (fun q i => (i = .int .i64 0 ∧ q = .int .i64 0) ∨ (i = .int .i64 1 ∧ q = .int .i64 (n0 : Int)) ∨ (i = .int .i64 2 ∧ q = .int .i64 ((n0 : Int) + (n1 : Int)))) (fun _ i => 2 - (intOf i).toNat)
 case atStart => exact .inl ⟨rfl, rfl⟩
 case round =>
  rcases hrel with ⟨rfl, rfl⟩ | ⟨rfl, rfl⟩ | ⟨rfl, rfl⟩
  ·have hng : ¬ (n0 : Int) < 0 := by omega
   go_wp2
   go_round
   case rel => exact .inr (.inl ⟨by go_num, by go_num⟩)
   case measure => simp [intOf]
  ·have hng : ¬ (n0 : Int) + (n1 : Int) < 0 := by omega
   go_wp2
   go_round
   case rel => exact .inr (.inr ⟨by go_num, by go_num⟩)
   case measure => simp [intOf]
  ·have HG := growNil_any (n0 + n1) w (by omega) (by omega)
   rw [Int.natCast_add] at HG
   go_wp2_with fail
   refine HG.mono ?_
   rintro e w1 ⟨v1, rfl, hg1, hb1⟩
   clear HG
   go_wp2
   go_loopw [6, 27] (fun q i wr => Below w.heap.size w wr ∧ ((i = .int .i64 0 ∧ Gr wr w.heap.size q []) ∨ (i = .int .i64 1 ∧ Gr wr w.heap.size q ([] ++ l0)) ∨ (i = .int .i64 2 ∧ Gr wr w.heap.size q (([] ++ l0) ++ l1)))) (fun _ i _ => 2 - (intOf i).toNat)
   case atStart => exact ⟨hb1, .inl ⟨rfl, hg1⟩⟩
   case round =>
    obtain ⟨hbr, hr⟩ := hrel
    obtain ⟨k0, k1, q0, q1⟩ := HC.out wr hbr
    have hz : w.heap.size ≤ wr.heap.size := hbr.size
    rcases hr with ⟨rfl, hgr⟩ | ⟨rfl, hgr⟩ | ⟨rfl, hgr⟩
    ·go_wp2_with (at_builtin; refine wpList_app_grx rfl _ _ 22 rfl w.heap.size _ [] (by rfl) hgr _ _ l0 (by rfl) (src_slice HE0.out q0 HZ0.out) HE0.out (by simp; omega) hz ?_; intro v2 w2 hg2 hb2; have hB2 := hbr.trans hb2)
     go_roundw
     case rel => exact ⟨hB2, .inr (.inl ⟨by go_num, hg2⟩)⟩
     case measure => simp [intOf]
    ·go_wp2_with (at_builtin; refine wpList_app_grx rfl _ _ 22 rfl w.heap.size _ ([] ++ l0) (by rfl) hgr _ _ l1 (by rfl) (src_slice HE1.out q1 HZ1.out) HE1.out (by omega) hz ?_; intro v2 w2 hg2 hb2; have hB2 := hbr.trans hb2)
     go_roundw
     case rel => exact ⟨hB2, .inr (.inr ⟨by go_num, hg2⟩)⟩
     case measure => simp [intOf]
    ·go_wp2
     go_ret
     exact ⟨_, rfl, hgr, hbr⟩
set_option maxHeartbeats 1600000 in
set_option maxRecDepth 100000 in
theorem sumOf_any (a : Option Addr) (n cap : Nat) (l : List Nat) (w : World) (hl : l.length = n) (hr : Rd w a l) (hB : IsB l) (hn : n ≤ 1000000) :
  Calls Tryd.prog 34 #[.slice a n cap] w fun e w' => e = .returned (prV (smJ 1 l)) ∧ Below w.heap.size w w' := by
 obtain ⟨W, hW⟩ : ∃ W, w.alloc (.cells #[.int .u8 0, .int .u8 0] 55) = W := ⟨_, rfl⟩
 have hsW : W.heap.size = w.heap.size + 1 := by rw [← hW]; simp
 have hb0 : Below w.heap.size w W := by rw [← hW]; exact (Below.refl _ _).alloc (Nat.le_refl _) _
 have HRB : Hid (∀ wr, Below (w.heap.size + 1) W wr → _) := fun wr hb => res_block hW hb
 have HRD : Hid (∀ wr, Below (w.heap.size + 1) W wr → Rd wr a l) := fun wr hb => hr.below (hb0.trans (hb.mono (by omega)))
 have HP := pairOf_any 1 W (by omega)
 rw [show ((1 : Nat) : Int) = 1 from rfl] at HP
 clear hr
 go_enter Tryd.func34, Tryd.ntmps34
 go_wp2_with fail
 refine HP.mono ?_
 rintro e w1 ⟨rfl, h1⟩
 rw [hsW] at h1
 clear HP
 have hz1 : w.heap.size + 1 ≤ w1.heap.size := by have := h1.size; omega
 have HL : Hid (l.length = n) := hl
 clear hl
 go_wp2
 go_loopw [9] (fun i wr => ∃ (j s : Nat), j ≤ n ∧ i = .int .i64 j ∧ s = smJ 1 (l.take j) ∧ s < 65536 ∧ Below (w.heap.size + 1) W wr ∧ w1.heap.size < wr.heap.size ∧ wr.cell? ⟨w1.heap.size, 0, none⟩ = some (.int .u8 ((s : Int) / 256)) ∧ wr.cell? ⟨w1.heap.size, 1, none⟩ = some (.int .u8 ((s : Int) % 256)) ∧ wr.frozen? ⟨w1.heap.size, 0, none⟩ = false ∧ wr.frozen? ⟨w1.heap.size, 1, none⟩ = false) (fun i _ => n - (intOf i).toNat)
 case atStart => exact ⟨0, 1, Nat.zero_le _, rfl, rfl, by omega, h1.alloc hz1 _, by simp, by simp, by simp, by simp, by simp⟩
 case round =>
  obtain ⟨j, s, hj, rfl, hs, hs1, hbr, hsr, k0, k1, f0, f1⟩ := hrel
  have HS : Hid (s = smJ 1 (l.take j)) := hs
  clear hs
  by_cases hjn : j < n
  ·have hji : (j : Int) < (n : Int) := by omega
   obtain ⟨b, off, ea, -, hc⟩ := (HRD.out wr hbr).at_ (by rw [HL.out]; omega)
   subst ea
   have hcj := hc j (by rw [HL.out]; omega)
   have hby := nth_lt hB j
   have HS2 : Hid ((s * 31 + nth l j) % 65521 = smJ 1 (l.take (j + 1))) := by show _ = _; rw [smJ_snoc 1 l j (by rw [HL.out]; omega), ← HS.out]
   have HC := with_any s (nth l j) wr hs1 hby
   clear hc
   generalize nth l j = y at *
   obtain ⟨m, hm⟩ : ∃ m, m = (s * 31 + y) % 65521 := ⟨_, rfl⟩
   have hm1 : m < 65536 := by omega
   rw [← hm] at HC HS2
   clear hm
   go_wp2_with fail
   refine HC.mono ?_
   rintro e w2 ⟨rfl, h2⟩
   have hb2 : Below (w.heap.size + 1) W w2 := hbr.trans (h2.mono (by omega))
   have k0' := (h2.cell (p := ⟨w1.heap.size, 0, none⟩) hsr).trans k0
   have k1' := (h2.cell (p := ⟨w1.heap.size, 1, none⟩) hsr).trans k1
   have f0' := (h2.frozen (p := ⟨w1.heap.size, 0, none⟩) hsr).trans f0
   have f1' := (h2.frozen (p := ⟨w1.heap.size, 1, none⟩) hsr).trans f1
   obtain ⟨x0, x1⟩ := res_cells k0' k1' (.int .u8 ((m : Int) / 256)) (.int .u8 ((m : Int) % 256))
   have hsz2 : w1.heap.size < w2.heap.size := Nat.lt_of_lt_of_le hsr h2.size
   have HX : Hid (((w2.setCell ⟨w1.heap.size, 0, none⟩ (.int .u8 ((m : Int) / 256))).setCell ⟨w1.heap.size, 1, none⟩ (.int .u8 ((m : Int) % 256))).cell? ⟨w1.heap.size, 0, none⟩ = some (.int .u8 ((m : Int) / 256))) := (World.cell?_setCell_other _ _ _ _ (by simp)).trans x0
   have HB2 : Hid (Below (w.heap.size + 1) W ((w2.setCell ⟨w1.heap.size, 0, none⟩ (.int .u8 ((m : Int) / 256))).setCell ⟨w1.heap.size, 1, none⟩ (.int .u8 ((m : Int) % 256)))) := (hb2.setCell hz1 _).setCell hz1 _
   clear HC k0 k1 f0 f1 h2 hb2
   go_wp2
   go_roundw
   case rel => exact ⟨j + 1, m, by omega, by go_num, HS2.out, hm1, HB2.out, by simpa using hsz2, HX.out, x1, by simpa using f0', by simpa using f1'⟩
   case measure => simp [intOf]; omega
  ·have hjj : j = n := by omega
   have hji : ¬ (j : Int) < (n : Int) := by omega
   have HS2 : Hid (s = smJ 1 l) := by show _ = _; rw [HS.out, hjj, ← HL.out, List.take_length]
   obtain ⟨a0, a1, y0, y1⟩ := HRB.out wr hbr
   obtain ⟨x0, x1⟩ := res_cells a0 a1 (.int .u8 ((s : Int) / 256)) (.int .u8 ((s : Int) % 256))
   have hBB : Below w.heap.size w wr := hb0.trans (hbr.mono (by omega))
   clear HS
   go_wp2
   refine bodyPost_ret (v := prV s) (by simp [results, Tryd.results34, go_sem, x0, x1]) rfl ?_
   rw [HS2.out]
   exact ⟨rfl, (hBB.setCell (by simp) _).setCell (by simp) _⟩
end Go.Proofs.YtdcgihcjiiemdaaDoor
