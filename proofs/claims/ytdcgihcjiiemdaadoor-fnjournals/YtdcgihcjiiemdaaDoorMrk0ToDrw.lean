/- Words on rows of memory, and on texts: no program in them · The model's draws: each ends with some number or bytes within small bounds, and turns nothing that was there; sources of at most 1048576 bytes. -/
import Derived.Test.YtdcgihcjiiemdaaDoorMemToApp
import Derived.Handy
import Derived.WalkSpells
namespace Go.Proofs.YtdcgihcjiiemdaaDoor
open Go.RowKit
theorem str_surj (s : ByteArray) : ∃ t, s = str t ∧ IsB t := by
 refine ⟨s.data.toList.map UInt8.toNat, ?_, ?_⟩
 ·obtain ⟨d⟩ := s
  unfold str
  congr 1
  rw [List.map_map]
  have : (UInt8.ofNat ∘ UInt8.toNat) = id := by funext b; simp
  rw [this]
  simp
 ·intro b hb
  simp only [List.mem_map] at hb
  obtain ⟨u, _, rfl⟩ := hb
  exact u.toNat_lt
end Go.Proofs.YtdcgihcjiiemdaaDoor
namespace Go.Proofs.YtdcgihcjiiemdaaDoor
open Go.RowKit
def Src (w : World) (B b M : Nat) : Prop := B ≤ b ∧ b < w.heap.size ∧ ∃ (a : Option Addr) (n cap at' : Nat) (l : List Nat),
 w.cell? ⟨b, 0, none⟩ = some (.slice a n cap) ∧ w.cell? ⟨b, 1, none⟩ = some (.int .i64 (at' : Int)) ∧ w.frozen? ⟨b, 1, none⟩ = false ∧ l.length = n ∧ n ≤ 1048576 ∧ IsB l ∧ at' ≤ M ∧
 (l = [] ∨ ∃ d off, a = some ⟨d, off, none⟩ ∧ d < B ∧ ∀ i, i < n → w.cell? ⟨d, off + i, none⟩ = some (.int .u8 (nth l i : Int)))
theorem Src.below {w w' : World} {B b M : Nat} (h : Src w B b M) (hb : Below (b + 1) w w') : Src w' B b M := by
 obtain ⟨h1, h2, a, n, cap, at', l, c0, c1, f1, hl, hn, hB, ha, hd⟩ := h
 refine ⟨h1, Nat.lt_of_lt_of_le h2 hb.size, a, n, cap, at', l, (hb.cell (p := ⟨b, 0, none⟩) (by simp)).trans c0, (hb.cell (p := ⟨b, 1, none⟩) (by simp)).trans c1, (hb.frozen (p := ⟨b, 1, none⟩) (by simp)).trans f1, hl, hn, hB, ha, ?_⟩
 rcases hd with hd | ⟨d, off, e, hlt, hc⟩
 ·exact .inl hd
 ·exact .inr ⟨d, off, e, hlt, fun i hi => (hb.cell (p := ⟨d, off + i, none⟩) (by simp; omega)).trans (hc i hi)⟩
theorem Src.more {w : World} {B b M M' : Nat} (h : Src w B b M) (hM : M ≤ M') : Src w B b M' := by
 obtain ⟨h1, h2, a, n, cap, at', l, c0, c1, f1, hl, hn, hB, ha, hd⟩ := h
 exact ⟨h1, h2, a, n, cap, at', l, c0, c1, f1, hl, hn, hB, by omega, hd⟩
theorem Own.keptG {w w' : World} {B b : Nat} {v : Value} {l : List Nat} (h : Own w B v l) (hg : w.grownBy w' (some b)) (hb : b < B) : Own w' B v l := by
 refine World.ownsRow.kept h hg ?_
 cases hv : v.ownBlock with
 | none => exact .inl rfl
 | some k => right; intro e; have := (h.lt k hv).1; simp at e; omega
set_option maxHeartbeats 3200000 in
set_option maxRecDepth 100000 in
theorem l1Next_any (B b M : Nat) (k : Int) (w : World) (hs : Src w B b M) (hM : M ≤ 100000) (h0 : 0 ≤ k) (hk : k ≤ 1000) :
  Calls Tryd.prog 25 #[.pointer (some ⟨b, 0, none⟩), .int .i64 k] w fun e w' =>
   ∃ r : Int, e = .returned (.int .i64 r) ∧ 0 ≤ r ∧ (1 ≤ k → r < k) ∧ r ≤ 1000 ∧ Src w' B b (M + 1) ∧ w.grownBy w' (some b) := by
 obtain ⟨hBb, hbw, a, n, cap, at', l, c0, c1, f1, hl, hn, hB, ha, hd⟩ := hs
 have d1 : (w.setCell ⟨b, 1, none⟩ (.int .i64 ((at' : Int) + 1))).cell? ⟨b, 1, none⟩ = some (.int .i64 ((at' : Int) + 1)) := World.cell?_setCell_same _ _ _ c1
 have d0 : (w.setCell ⟨b, 1, none⟩ (.int .i64 ((at' : Int) + 1))).cell? ⟨b, 0, none⟩ = some (.slice a n cap) := by simp [go_sem, c0]
 have hgr : w.grownBy (w.setCell ⟨b, 1, none⟩ (.int .i64 ((at' : Int) + 1))) (some b) := ⟨rfl, rfl, rfl, by simp, fun j _ hj => Below.heap_setCell w ⟨b, 1, none⟩ _ j (fun e => hj (by simp [e]))⟩
 have hS : Src (w.setCell ⟨b, 1, none⟩ (.int .i64 ((at' : Int) + 1))) B b (M + 1) := by
  refine ⟨hBb, by simpa using hbw, a, n, cap, at' + 1, l, d0, by rw [d1]; rfl, (World.frozen?_setCell _ _ _ _).trans f1, hl, hn, hB, by omega, ?_⟩
  rcases hd with hd | ⟨d, off, e, hlt, hc⟩
  ·exact .inl hd
  ·exact .inr ⟨d, off, e, hlt, fun i hi => (hgr.cell_far ⟨d, off + i, none⟩ (by simp; omega) (by simp; omega)).trans (hc i hi)⟩
 have HS : Hid (_) := hS
 have HG : Hid (_) := hgr
 have hfin : ∀ j, Src ((w.setCell ⟨b, 1, none⟩ (.int .i64 ((at' : Int) + 1))).drewN j) B b (M + 1) := fun j => hS
 have hfin2 : ∀ j, w.grownBy ((w.setCell ⟨b, 1, none⟩ (.int .i64 ((at' : Int) + 1))).drewN j) (some b) := fun j => ⟨hgr.os, hgr.tape, hgr.output, hgr.size, hgr.block⟩
 by_cases hk1 : k < 1
 ·clear hfin hfin2 hS hgr hd
  go_enter Tryd.func25, Tryd.ntmps25
  go_wp2
  go_ret
  exact ⟨0, rfl, by omega, by omega, by omega, HS.out, HG.out⟩
 ·by_cases hn0 : n = 0
  ·subst hn0
   clear hfin hfin2 hS hgr hd
   go_enter Tryd.func25, Tryd.ntmps25
   go_wp2
   go_ret
   have r1 := Int.emod_nonneg ((at' : Int) * 7) (show k ≠ 0 by omega)
   have r2 := Int.emod_lt_of_pos ((at' : Int) * 7) (show 0 < k by omega)
   exact ⟨_, rfl, r1, r2, by omega, HS.out, HG.out⟩
  ·obtain ⟨q1, hq1⟩ : ∃ q, q = at' % n := ⟨_, rfl⟩
   obtain ⟨q2, hq2⟩ : ∃ q, q = (at' + 1) % n := ⟨_, rfl⟩
   obtain ⟨p, hp⟩ : ∃ p, p = at' / n := ⟨_, rfl⟩
   have q1n : q1 < n := by rw [hq1]; exact Nat.mod_lt _ (by omega)
   have q2n : q2 < n := by rw [hq2]; exact Nat.mod_lt _ (by omega)
   have hp' : p ≤ 100000 := by have := Nat.div_le_self at' n; omega
   rcases hd with hd | ⟨d, off, rfl, hdB, hc⟩
   ·rw [hd] at hl; simp at hl; omega
   have x1 : (w.setCell ⟨b, 1, none⟩ (.int .i64 ((at' : Int) + 1))).cell? ⟨d, off + q1, none⟩ = some (.int .u8 (nth l q1 : Int)) := (hgr.cell_far ⟨d, off + q1, none⟩ (by simp; omega) (by simp; omega)).trans (hc q1 q1n)
   have x2 : (w.setCell ⟨b, 1, none⟩ (.int .i64 ((at' : Int) + 1))).cell? ⟨d, off + q2, none⟩ = some (.int .u8 (nth l q2 : Int)) := (hgr.cell_far ⟨d, off + q2, none⟩ (by simp; omega) (by simp; omega)).trans (hc q2 q2n)
   have b1 := nth_lt hB q1
   have b2 := nth_lt hB q2
   generalize nth l q1 = y1 at *
   generalize nth l q2 = y2 at *
   have e1 : (at' : Int) % (n : Int) = (q1 : Int) := by rw [hq1]; exact (Int.natCast_emod _ _).symm
   have e2 : ((at' : Int) + 1) % (n : Int) = (q2 : Int) := by rw [hq2, Int.natCast_emod]; rfl
   have e3 : (at' : Int) / (n : Int) = (p : Int) := by rw [hp]; exact (Int.natCast_ediv _ _).symm
   have i1 : (q1 : Int) < (n : Int) := by omega
   have i2 : (q2 : Int) < (n : Int) := by omega
   have n0 : ((n : Int) == 0) = false := beq_eq_false_iff_ne.2 (by omega)
   have HF : Hid (_) := hfin
   have HF2 : Hid (_) := hfin2
   clear hc hq1 hq2 hp hS hgr hfin hfin2
   by_cases hk2 : 200 < k
   ·go_enter Tryd.func25, Tryd.ntmps25
    go_wp2
    go_quiet (fail)
    go_wp2
    go_quiet (fail)
    go_wp2
    go_ret
    have r1 := Int.emod_nonneg (((y1 : Int) + (p : Int) * 37) * 251 + (y2 : Int) * 13 + (at' : Int)) (show k ≠ 0 by omega)
    have r2 := Int.emod_lt_of_pos (((y1 : Int) + (p : Int) * 37) * 251 + (y2 : Int) * 13 + (at' : Int)) (show 0 < k by omega)
    exact ⟨_, rfl, r1, fun _ => r2, by omega, HF.out _, HF2.out _⟩
   ·go_enter Tryd.func25, Tryd.ntmps25
    go_wp2
    go_quiet (fail)
    go_wp2
    go_ret
    have r1 := Int.emod_nonneg ((y1 : Int) + (p : Int) * 37) (show k ≠ 0 by omega)
    have r2 := Int.emod_lt_of_pos ((y1 : Int) + (p : Int) * 37) (show 0 < k by omega)
    exact ⟨_, rfl, r1, fun _ => r2, by omega, HF.out _, HF2.out _⟩
end Go.Proofs.YtdcgihcjiiemdaaDoor
