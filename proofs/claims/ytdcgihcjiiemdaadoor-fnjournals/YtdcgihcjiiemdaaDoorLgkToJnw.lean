/- Bytes that the model draws: their address is known, and how much of the source is used; sources of at most 1048576 bytes · Two bytes, bit by bit unlike; no conditions beyond those that each fact names · The draw of bytes in which an op is read; no conditions beyond those that each fact names · The draw of a text and a piece of it, once more, with a word on texts of nothing; and a choice that the laws make · A draw of a number below any bound up to 20000, and the law's own choice; no conditions beyond those that each fact names. -/
import Derived.Test.YtdcgihcjiiemdaaDoorGrxToDrk
import Derived.Test.YtdcgihcjiiemdaaDoorDrw2ToAppI
import Derived.Test.YtdcgihcjiiemdaaDoorMemToApp
import Derived.Test.YtdcgihcjiiemdaaDoorDob
import Derived.Test.YtdcgihcjiiemdaaDoorPkm
import Derived.Test.YtdcgihcjiiemdaaDoorRjc
import Derived.Test.YtdcgihcjiiemdaaDoorDecQToDrl4
import Derived.Laws.AppendOwnNone
namespace Go.Proofs.YtdcgihcjiiemdaaDoor
open Go.RowKit
end Go.Proofs.YtdcgihcjiiemdaaDoor
namespace Go.Proofs.YtdcgihcjiiemdaaDoor
open Go.RowKit
theorem xor_u8 (a b : Nat) (ha : a < 256) (hb : b < 256) : bits .xor .u8 (a : Int) (b : Int) = ((a ^^^ b : Nat) : Int) := by
 have hx : a ^^^ b < 2 ^ 8 := Nat.xor_lt_two_pow (by omega) (by omega)
 have h1 : (BitVec.ofInt 8 (a : Int)).toNat = a := by
  rw [BitVec.ofInt_natCast, BitVec.toNat_ofNat]; exact Nat.mod_eq_of_lt (by omega)
 have h2 : (BitVec.ofInt 8 (b : Int)).toNat = b := by
  rw [BitVec.ofInt_natCast, BitVec.toNat_ofNat]; exact Nat.mod_eq_of_lt (by omega)
 show IntKind.u8.wrap ((BitVec.ofInt 8 (a : Int) ^^^ BitVec.ofInt 8 (b : Int)).toNat : Int) = _
 rw [BitVec.toNat_xor, h1, h2]
 have : ∀ n : Int, IntKind.u8.wrap n = n % 256 := fun n => by simp [IntKind.wrap, IntKind.bits, IntKind.signed]
 rw [this]
 omega
theorem xor_lt8 {a b : Nat} (ha : a < 256) (hb : b < 256) : a ^^^ b < 256 := Nat.xor_lt_two_pow (n := 8) ha hb
end Go.Proofs.YtdcgihcjiiemdaaDoor
namespace Go.Proofs.YtdcgihcjiiemdaaDoor
open Go.RowKit
set_option linter.unusedVariables false
theorem nth_mem8 {l : List Nat} {i : Nat} (h : i < l.length) : nth l i ∈ l := by
 rw [nth_get h]; exact List.getElem_mem h
theorem Gr.kbJ {w w' : World} {B b : Nat} {v : Value} {l : List Nat} (h : Gr w B v l) (hk : w.grownBy w' (some b)) (hb : b < B) : Gr w' B v l := by
 obtain ⟨g, cap, e, hBg, hm, hc⟩ := h
 exact ⟨g, cap, e, hBg, hm, hc.kept hk (by omega)⟩
theorem Cv.take {w : World} {g n cap k : Nat} {l : List Nat} (h : Cv w g n cap l) (hk : k ≤ n) : Rd w (some ⟨g, 0, none⟩) (l.take k) := by
 obtain ⟨hl, -, hg, hc, -⟩ := h
 refine .inr ⟨g, 0, rfl, hg, fun i hi => ?_⟩
 rw [List.length_take] at hi
 rw [Nat.zero_add, hc i (by omega)]
 congr 3
 unfold nth
 rw [List.getD_eq_getElem?_getD, List.getD_eq_getElem?_getD, List.getElem?_take_of_lt (by omega)]
def RbDr (w : World) (e : Ending) (w' : World) : Prop := ∃ (g n c : Nat) (d : List Nat), e = .returned (.slice (some ⟨g, 0, none⟩) n c) ∧ d.length = n ∧ n ≤ c ∧ c ≤ maxLen ∧ n ≤ 8000 ∧ IsB d ∧ Rd w' (some ⟨g, 0, none⟩) d ∧ g < w'.heap.size ∧ Below w.heap.size w w'
theorem RbDr.mk {w w' : World} {B g n c : Nat} {d : List Nat} (hc : Cv w' g n c d) (hm : c ≤ maxLen) (hn : n ≤ 8000) (hB : IsB d) (hb : Below w.heap.size w w') : RbDr w (.returned (.slice (some ⟨g, 0, none⟩) n c)) w' :=
 ⟨g, n, c, d, rfl, hc.1, hc.2.1, hm, hn, hB, hc.rd, hc.2.2.1, hb⟩
theorem RbDr.cut {w w' : World} {g n c k : Nat} {d : List Nat} (hc : Cv w' g n c d) (hk : k ≤ n) (hm : c ≤ maxLen) (hn : n ≤ 8000) (hB : IsB d) (hb : Below w.heap.size w w') : RbDr w (.returned (.slice (some ⟨g, 0, none⟩) k c)) w' :=
 ⟨g, k, c, d.take k, rfl, by have := hc.1; rw [List.length_take]; omega, by have := hc.2.1; omega, hm, by omega, fun z hz => hB z (List.mem_of_mem_take hz), hc.take hk, hc.2.2.1, hb⟩
end Go.Proofs.YtdcgihcjiiemdaaDoor
namespace Go.Proofs.YtdcgihcjiiemdaaDoor
open Go.RowKit
def SlN (w : World) (v : Value) (l : List Int) : Prop := ∃ (a : Option Addr) (n cap : Nat), v = .slice a n cap ∧ l.length = n ∧ n ≤ cap ∧ n ≤ 100 ∧ (a = none → cap = 0) ∧ RdI w a l
theorem SlN.below {w w' : World} {v : Value} {l : List Int} (h : SlN w v l) (hb : Below w.heap.size w w') : SlN w' v l := by
 obtain ⟨a, n, cap, e, h1, h2, h3, h5, h4⟩ := h
 exact ⟨a, n, cap, e, h1, h2, h3, h5, h4.below hb⟩
end Go.Proofs.YtdcgihcjiiemdaaDoor
namespace Go.Proofs.YtdcgihcjiiemdaaDoor
open Go.RowKit
set_option maxHeartbeats 3200000 in
set_option maxRecDepth 100000 in
theorem l1NextW_any (B b M : Nat) (k : Int) (w : World) (hs : Src w B b M) (hM : M ≤ 100000) (h0 : 0 ≤ k) (hk : k ≤ 20000) :
  Calls Tryd.prog 25 #[.pointer (some ⟨b, 0, none⟩), .int .i64 k] w fun e w' =>
   ∃ r : Int, e = .returned (.int .i64 r) ∧ 0 ≤ r ∧ (1 ≤ k → r < k) ∧ Src w' B b (M + 1) ∧ w.grownBy w' (some b) := by
 obtain ⟨hBb, hbw, a, n, cap, at', l, c0, c1, f1, hl, hn, hB, ha, hd⟩ := hs
 have d1 : (w.setCell ⟨b, 1, none⟩ (.int .i64 ((at' : Int) + 1))).cell? ⟨b, 1, none⟩ = some (.int .i64 ((at' : Int) + 1)) := World.cell?_setCell_same _ _ _ c1
 have d0 : (w.setCell ⟨b, 1, none⟩ (.int .i64 ((at' : Int) + 1))).cell? ⟨b, 0, none⟩ = some (.slice a n cap) := by simp [go_sem, c0]
 have hgr : w.grownBy (w.setCell ⟨b, 1, none⟩ (.int .i64 ((at' : Int) + 1))) (some b) := ⟨rfl, rfl, rfl, by simp, fun j _ hj => Below.heap_setCell w ⟨b, 1, none⟩ _ j (fun e => hj (by simp [e]))⟩
 have hS : Src (w.setCell ⟨b, 1, none⟩ (.int .i64 ((at' : Int) + 1))) B b (M + 1) := by
  refine ⟨hBb, by simpa using hbw, a, n, cap, at' + 1, l, d0, by rw [d1]; rfl, (World.frozen?_setCell _ _ _ _).trans f1, hl, hn, hB, by omega, ?_⟩
  rcases hd with hd | ⟨d, off, e, hlt, hc⟩
  ·exact .inl hd
  ·exact .inr ⟨d, off, e, hlt, fun i hi => (hgr.cell_far ⟨d, off + i, none⟩ (by simp; omega) (by simp; omega)).trans (hc i hi)⟩
 have HS : Hid (_) := hS
 have HG : Hid (_) := hgr
 have hfin : ∀ j, Src ((w.setCell ⟨b, 1, none⟩ (.int .i64 ((at' : Int) + 1))).drewN j) B b (M + 1) := fun j => hS
 have hfin2 : ∀ j, w.grownBy ((w.setCell ⟨b, 1, none⟩ (.int .i64 ((at' : Int) + 1))).drewN j) (some b) := fun j => ⟨hgr.os, hgr.tape, hgr.output, hgr.size, hgr.block⟩
 by_cases hk1 : k < 1
 ·clear hfin hfin2 hS hgr hd
  go_enter Tryd.func25, Tryd.ntmps25
  go_wp2
  go_ret
  exact ⟨0, rfl, by omega, by omega, HS.out, HG.out⟩
 ·by_cases hn0 : n = 0
  ·subst hn0
   clear hfin hfin2 hS hgr hd
   go_enter Tryd.func25, Tryd.ntmps25
   go_wp2
   go_ret
   have r1 := Int.emod_nonneg ((at' : Int) * 7) (show k ≠ 0 by omega)
   have r2 := Int.emod_lt_of_pos ((at' : Int) * 7) (show 0 < k by omega)
   exact ⟨_, rfl, r1, r2, HS.out, HG.out⟩
  ·obtain ⟨q1, hq1⟩ : ∃ q, q = at' % n := ⟨_, rfl⟩
   obtain ⟨q2, hq2⟩ : ∃ q, q = (at' + 1) % n := ⟨_, rfl⟩
   obtain ⟨p, hp⟩ : ∃ p, p = at' / n := ⟨_, rfl⟩
   have q1n : q1 < n := by rw [hq1]; exact Nat.mod_lt _ (by omega)
   have q2n : q2 < n := by rw [hq2]; exact Nat.mod_lt _ (by omega)
   have hp' : p ≤ 100000 := by have := Nat.div_le_self at' n; omega
   rcases hd with hd | ⟨d, off, rfl, hdB, hc⟩
   ·rw [hd] at hl; simp at hl; omega
   have x1 : (w.setCell ⟨b, 1, none⟩ (.int .i64 ((at' : Int) + 1))).cell? ⟨d, off + q1, none⟩ = some (.int .u8 (nth l q1 : Int)) := (hgr.cell_far ⟨d, off + q1, none⟩ (by simp; omega) (by simp; omega)).trans (hc q1 q1n)
   have x2 : (w.setCell ⟨b, 1, none⟩ (.int .i64 ((at' : Int) + 1))).cell? ⟨d, off + q2, none⟩ = some (.int .u8 (nth l q2 : Int)) := (hgr.cell_far ⟨d, off + q2, none⟩ (by simp; omega) (by simp; omega)).trans (hc q2 q2n)
   have b1 := nth_lt hB q1
   have b2 := nth_lt hB q2
   generalize nth l q1 = y1 at *
   generalize nth l q2 = y2 at *
   have e1 : (at' : Int) % (n : Int) = (q1 : Int) := by rw [hq1]; exact (Int.natCast_emod _ _).symm
   have e2 : ((at' : Int) + 1) % (n : Int) = (q2 : Int) := by rw [hq2, Int.natCast_emod]; rfl
   have e3 : (at' : Int) / (n : Int) = (p : Int) := by rw [hp]; exact (Int.natCast_ediv _ _).symm
   have i1 : (q1 : Int) < (n : Int) := by omega
   have i2 : (q2 : Int) < (n : Int) := by omega
   have n0 : ((n : Int) == 0) = false := beq_eq_false_iff_ne.2 (by omega)
   have HF : Hid (_) := hfin
   have HF2 : Hid (_) := hfin2
   clear hc hq1 hq2 hp hS hgr hfin hfin2
   by_cases hk2 : 200 < k
   ·go_enter Tryd.func25, Tryd.ntmps25
    go_wp2
    go_quiet (fail)
    go_wp2
    go_quiet (fail)
    go_wp2
    go_ret
    have r1 := Int.emod_nonneg (((y1 : Int) + (p : Int) * 37) * 251 + (y2 : Int) * 13 + (at' : Int)) (show k ≠ 0 by omega)
    have r2 := Int.emod_lt_of_pos (((y1 : Int) + (p : Int) * 37) * 251 + (y2 : Int) * 13 + (at' : Int)) (show 0 < k by omega)
    exact ⟨_, rfl, r1, fun _ => r2, HF.out _, HF2.out _⟩
   ·go_enter Tryd.func25, Tryd.ntmps25
    go_wp2
    go_quiet (fail)
    go_wp2
    go_ret
    have r1 := Int.emod_nonneg ((y1 : Int) + (p : Int) * 37) (show k ≠ 0 by omega)
    have r2 := Int.emod_lt_of_pos ((y1 : Int) + (p : Int) * 37) (show 0 < k by omega)
    exact ⟨_, rfl, r1, fun _ => r2, HF.out _, HF2.out _⟩
set_option maxHeartbeats 1600000 in
set_option maxRecDepth 100000 in
theorem lwAtW_any (a : Option Addr) (n cap i : Nat) (k : Int) (l : List Nat) (w : World) (hl : l.length = n) (hr : Rd w a l) (hB : IsB l) (hn : n ≤ 1048576) (hi : i ≤ 10) (h0 : 1 ≤ k) (hk : k ≤ 20000) :
  Calls Tryd.prog 13 #[.slice a n cap, .int .i64 (i : Int), .int .i64 k] w fun e w' => ∃ r : Int, e = .returned (.int .i64 r) ∧ 0 ≤ r ∧ r < k ∧ Below w.heap.size w w' := by
 by_cases hk1 : k ≤ 1
 ·go_enter Tryd.func13, Tryd.ntmps13
  go_wp2
  go_ret
  exact ⟨0, rfl, by omega, by omega, Below.refl _ _⟩
 ·by_cases hn0 : n = 0
  ·subst hn0
   go_enter Tryd.func13, Tryd.ntmps13
   go_wp2
   go_ret
   have r1 := Int.emod_nonneg ((i : Int) * 7) (show k ≠ 0 by omega)
   have r2 := Int.emod_lt_of_pos ((i : Int) * 7) (show 0 < k by omega)
   exact ⟨_, rfl, r1, r2, Below.refl _ _⟩
  ·obtain ⟨q1, hq1⟩ : ∃ q, q = i % n := ⟨_, rfl⟩
   obtain ⟨q2, hq2⟩ : ∃ q, q = (i + 1) % n := ⟨_, rfl⟩
   obtain ⟨p, hp⟩ : ∃ p, p = i / n := ⟨_, rfl⟩
   have q1n : q1 < n := by rw [hq1]; exact Nat.mod_lt _ (by omega)
   have q2n : q2 < n := by rw [hq2]; exact Nat.mod_lt _ (by omega)
   have hp' : p ≤ 1000 := by have := Nat.div_le_self i n; omega
   obtain ⟨d, off, rfl, hdlt, hc⟩ := hr.at_ (by omega)
   have x1 := hc q1 (by omega)
   have x2 := hc q2 (by omega)
   have b1 := nth_lt hB q1
   have b2 := nth_lt hB q2
   generalize nth l q1 = y1 at *
   generalize nth l q2 = y2 at *
   have e1 : (i : Int) % (n : Int) = (q1 : Int) := by rw [hq1]; exact (Int.natCast_emod _ _).symm
   have e2 : ((i : Int) + 1) % (n : Int) = (q2 : Int) := by rw [hq2, Int.natCast_emod]; rfl
   have e3 : (i : Int) / (n : Int) = (p : Int) := by rw [hp]; exact (Int.natCast_ediv _ _).symm
   have i1 : (q1 : Int) < (n : Int) := by omega
   have i2 : (q2 : Int) < (n : Int) := by omega
   have n0 : ((n : Int) == 0) = false := beq_eq_false_iff_ne.2 (by omega)
   clear hc hq1 hq2 hp
   by_cases hk2 : 200 < k
   ·go_enter Tryd.func13, Tryd.ntmps13
    go_wp2
    go_quiet (fail)
    go_wp2
    go_ret
    have r1 := Int.emod_nonneg (((y1 : Int) + (p : Int) * 3) * 251 + (y2 : Int)) (show k ≠ 0 by omega)
    have r2 := Int.emod_lt_of_pos (((y1 : Int) + (p : Int) * 3) * 251 + (y2 : Int)) (show 0 < k by omega)
    exact ⟨_, rfl, r1, r2, below_drewN (Below.refl _ _) _⟩
   ·go_enter Tryd.func13, Tryd.ntmps13
    go_wp2
    go_quiet (fail)
    go_wp2
    go_ret
    have r1 := Int.emod_nonneg ((y1 : Int) + (p : Int) * 3) (show k ≠ 0 by omega)
    have r2 := Int.emod_lt_of_pos ((y1 : Int) + (p : Int) * 3) (show 0 < k by omega)
    exact ⟨_, rfl, r1, r2, below_drewN (Below.refl _ _) _⟩
end Go.Proofs.YtdcgihcjiiemdaaDoor
