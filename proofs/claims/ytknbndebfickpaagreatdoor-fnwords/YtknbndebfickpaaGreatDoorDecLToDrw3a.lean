/- The characters that some bytes tell: plain functions, with no program in them, and how an answer with numbers ends · Words on rows of memory, and on texts: no program in them · The model's draws: each ends with some number or bytes within small bounds, and turns nothing that was there; sources of at most 1048576 bytes · More of the model's draws: a source, a chance, a pick, some bytes; each ends within small bounds and turns nothing but its source · Bytes that the model draws: at most 401 of them, in memory of the draw's own; nothing that was there is turned; sources of at most 1048576 bytes. -/
import Derived.Test.YtknbndebfickpaaGreatDoorDec2
import Derived.Test.YtknbndebfickpaaGreatDoorApp
import Derived.Handy
import Derived.WalkSpells
namespace Go.Proofs.YtknbndebfickpaaGreatDoor
open Go.RowKit

/-- The characters of some bytes, if they tell any. -/
def decL (cs : Int) (l : List Nat) : Option (List Int) :=
  if _h : 1 ≤ l.length ∧ (rdC cs l).2 ≠ 0 then (decL cs (l.drop (rdC cs l).2)).map (((rdC cs l).1 : Int) :: ·) else if l.length = 0 then some [] else none
termination_by l.length
decreasing_by
  rw [List.length_drop]
  omega
theorem decL_nil {cs : Int} {l : List Nat} (h : l.length = 0) : decL cs l = some [] := by
  rw [decL, dif_neg (by omega), if_pos h]
theorem decL_none {cs : Int} {l : List Nat} (h : 1 ≤ l.length) (h0 : (rdC cs l).2 = 0) : decL cs l = none := by
  rw [decL, dif_neg (by intro h'; exact h'.2 h0), if_neg (by omega)]
theorem decL_step {cs : Int} {l : List Nat} {c s : Nat} (h : 1 ≤ l.length) (hs : s ≠ 0) (hr : rdC cs l = (c, s)) : decL cs l = (decL cs (l.drop s)).map ((c : Int) :: ·) := by
  rw [decL, dif_pos ⟨h, by rw [hr]; exact hs⟩, hr]
/-- What DecodeText answers. -/
def decT (cs : Int) (l : List Nat) : Int × List Int := if 1 ≤ cs ∧ cs ≤ 5 then (if 400 < l.length then (2, []) else match decL cs l with | some u => (0, u) | none => (8, [])) else (4, [])
theorem decT_cs {cs : Int} {l : List Nat} (h : ¬ (1 ≤ cs ∧ cs ≤ 5)) : decT cs l = (4, []) := if_neg h
theorem decT_many {cs : Int} {l : List Nat} (h : 1 ≤ cs ∧ cs ≤ 5) (h4 : 400 < l.length) : decT cs l = (2, []) := by unfold decT; rw [if_pos h, if_pos h4]
theorem decT_no {cs : Int} {l : List Nat} (h : 1 ≤ cs ∧ cs ≤ 5) (h4 : ¬ 400 < l.length) (hd : decL cs l = none) : decT cs l = (8, []) := by unfold decT; rw [if_pos h, if_neg h4, hd]
theorem decT_ok {cs : Int} {l : List Nat} {u : List Int} (h : 1 ≤ cs ∧ cs ≤ 5) (h4 : ¬ 400 < l.length) (hd : decL cs l = some u) : decT cs l = (0, u) := by unfold decT; rw [if_pos h, if_neg h4, hd]
theorem omap_app {o : Option (List Int)} {a : List Int} {c : Int} : (o.map (c :: ·)).map (a ++ ·) = o.map ((a ++ [c]) ++ ·) := by cases o <;> simp

/-- An answer with numbers. -/
def CodEnd (r : Int × List Int) (w : World) (e : Ending) (w' : World) : Prop := ∃ v, e = .returned (.agg #[.int .i64 r.1, v]) ∧ OwnI w' w.heap.size v r.2 ∧ Below w.heap.size w w'
theorem CodEnd.code {c : Int} {w w1 : World} (hbel : Below w.heap.size w w1) (x y : Value) : CodEnd (c, []) w (.returned (.agg #[.int .i64 c, .slice none 0 0])) ((w1.setCell ⟨w.heap.size, 0, none⟩ x).setCell ⟨w.heap.size, 1, none⟩ y) :=
  ⟨_, rfl, OwnI.nil _ _, (hbel.setCell (by simp) _).setCell (by simp) _⟩
theorem CodEnd.some {c : Int} {w w1 : World} {v : Value} {l : List Int} (hbel : Below w.heap.size w w1) (hown : OwnI w1 (w.heap.size + 1) v l) (x y : Value) : CodEnd (c, l) w (.returned (.agg #[.int .i64 c, v])) ((w1.setCell ⟨w.heap.size, 0, none⟩ x).setCell ⟨w.heap.size, 1, none⟩ y) :=
  ⟨_, rfl, ((hown.kept _ (by simp) _).kept _ (by simp) _).lower (by omega), (hbel.setCell (by simp) _).setCell (by simp) _⟩

end Go.Proofs.YtknbndebfickpaaGreatDoor

namespace Go.Proofs.YtknbndebfickpaaGreatDoor
open Go.RowKit

theorem ownBlock_slice (a : Option Addr) (n cap : Nat) : (Value.slice a n cap).ownBlock = a.map (·.block) := by cases a <;> rfl
theorem grown_alloc {w w' : World} {o : Obj} {row : Option Nat} (h : (w.alloc o).grownBy w' row) : w.grownBy w' row :=
  ⟨h.os, h.tape, h.output, Nat.le_trans (by simp) h.size, fun b hb hne => (h.block b (by simp; omega) hne).trans (Below.heap_alloc w o b hb)⟩

/-- Every text is the text of some bytes. -/
theorem str_surj (s : ByteArray) : ∃ t, s = str t ∧ IsB t := by
  refine ⟨s.data.toList.map UInt8.toNat, ?_, ?_⟩
  · obtain ⟨d⟩ := s
    unfold str
    congr 1
    rw [List.map_map]
    have : (UInt8.ofNat ∘ UInt8.toNat) = id := by funext b; simp
    rw [this]
    simp
  · intro b hb
    simp only [List.mem_map] at hb
    obtain ⟨u, _, rfl⟩ := hb
    exact u.toNat_lt
end Go.Proofs.YtknbndebfickpaaGreatDoor

namespace Go.Proofs.YtknbndebfickpaaGreatDoor
open Go.RowKit

/-- A source of draws, laid at block b: its bytes lie below B, and at most M have been drawn. -/
def Src (w : World) (B b M : Nat) : Prop := B ≤ b ∧ b < w.heap.size ∧ ∃ (a : Option Addr) (n cap at' : Nat) (l : List Nat),
  w.cell? ⟨b, 0, none⟩ = some (.slice a n cap) ∧ w.cell? ⟨b, 1, none⟩ = some (.int .i64 (at' : Int)) ∧ w.frozen? ⟨b, 1, none⟩ = false ∧ l.length = n ∧ n ≤ 1048576 ∧ IsB l ∧ at' ≤ M ∧
  (l = [] ∨ ∃ d off, a = some ⟨d, off, none⟩ ∧ d < B ∧ ∀ i, i < n → w.cell? ⟨d, off + i, none⟩ = some (.int .u8 (nth l i : Int)))
theorem Src.below {w w' : World} {B b M : Nat} (h : Src w B b M) (hb : Below (b + 1) w w') : Src w' B b M := by
  obtain ⟨h1, h2, a, n, cap, at', l, c0, c1, f1, hl, hn, hB, ha, hd⟩ := h
  refine ⟨h1, Nat.lt_of_lt_of_le h2 hb.size, a, n, cap, at', l, (hb.cell (p := ⟨b, 0, none⟩) (by simp)).trans c0, (hb.cell (p := ⟨b, 1, none⟩) (by simp)).trans c1, (hb.frozen (p := ⟨b, 1, none⟩) (by simp)).trans f1, hl, hn, hB, ha, ?_⟩
  rcases hd with hd | ⟨d, off, e, hlt, hc⟩
  · exact .inl hd
  · exact .inr ⟨d, off, e, hlt, fun i hi => (hb.cell (p := ⟨d, off + i, none⟩) (by simp; omega)).trans (hc i hi)⟩
theorem Src.more {w : World} {B b M M' : Nat} (h : Src w B b M) (hM : M ≤ M') : Src w B b M' := by
  obtain ⟨h1, h2, a, n, cap, at', l, c0, c1, f1, hl, hn, hB, ha, hd⟩ := h
  exact ⟨h1, h2, a, n, cap, at', l, c0, c1, f1, hl, hn, hB, by omega, hd⟩
theorem Own.keptG {w w' : World} {B b : Nat} {v : Value} {l : List Nat} (h : Own w B v l) (hg : w.grownBy w' (some b)) (hb : b < B) : Own w' B v l := by
  refine World.ownsRow.kept h hg ?_
  cases hv : v.ownBlock with
  | none => exact .inl rfl
  | some k => right; intro e; have := (h.lt k hv).1; simp at e; omega

set_option maxHeartbeats 3200000 in
set_option maxRecDepth 100000 in
theorem l1Next_any (B b M : Nat) (k : Int) (w : World) (hs : Src w B b M) (hM : M ≤ 1000) (h0 : 0 ≤ k) (hk : k ≤ 1000) :
    Calls Tryz.prog 17 #[.pointer (some ⟨b, 0, none⟩), .int .i64 k] w fun e w' =>
      ∃ r : Int, e = .returned (.int .i64 r) ∧ 0 ≤ r ∧ (1 ≤ k → r < k) ∧ r ≤ 1000 ∧ Src w' B b (M + 1) ∧ w.grownBy w' (some b) := by
  obtain ⟨hBb, hbw, a, n, cap, at', l, c0, c1, f1, hl, hn, hB, ha, hd⟩ := hs
  have d1 : (w.setCell ⟨b, 1, none⟩ (.int .i64 ((at' : Int) + 1))).cell? ⟨b, 1, none⟩ = some (.int .i64 ((at' : Int) + 1)) := World.cell?_setCell_same _ _ _ c1
  have d0 : (w.setCell ⟨b, 1, none⟩ (.int .i64 ((at' : Int) + 1))).cell? ⟨b, 0, none⟩ = some (.slice a n cap) := by simp [go_sem, c0]
  have hgr : w.grownBy (w.setCell ⟨b, 1, none⟩ (.int .i64 ((at' : Int) + 1))) (some b) := ⟨rfl, rfl, rfl, by simp, fun j _ hj => Below.heap_setCell w ⟨b, 1, none⟩ _ j (fun e => hj (by simp [e]))⟩
  have hS : Src (w.setCell ⟨b, 1, none⟩ (.int .i64 ((at' : Int) + 1))) B b (M + 1) := by
    refine ⟨hBb, by simpa using hbw, a, n, cap, at' + 1, l, d0, by rw [d1]; rfl, (World.frozen?_setCell _ _ _ _).trans f1, hl, hn, hB, by omega, ?_⟩
    rcases hd with hd | ⟨d, off, e, hlt, hc⟩
    · exact .inl hd
    · exact .inr ⟨d, off, e, hlt, fun i hi => (hgr.cell_far ⟨d, off + i, none⟩ (by simp; omega) (by simp; omega)).trans (hc i hi)⟩
  have HS : Hid (_) := hS
  have HG : Hid (_) := hgr
  have hfin : ∀ j, Src ((w.setCell ⟨b, 1, none⟩ (.int .i64 ((at' : Int) + 1))).drewN j) B b (M + 1) := fun j => hS
  have hfin2 : ∀ j, w.grownBy ((w.setCell ⟨b, 1, none⟩ (.int .i64 ((at' : Int) + 1))).drewN j) (some b) := fun j => ⟨hgr.os, hgr.tape, hgr.output, hgr.size, hgr.block⟩
  by_cases hk1 : k < 1
  · clear hfin hfin2 hS hgr hd
    go_enter Tryz.func17, Tryz.ntmps17
    go_wp2
    go_ret
    exact ⟨0, rfl, by omega, by omega, by omega, HS.out, HG.out⟩
  · by_cases hn0 : n = 0
    · subst hn0
      clear hfin hfin2 hS hgr hd
      go_enter Tryz.func17, Tryz.ntmps17
      go_wp2
      go_ret
      have r1 := Int.emod_nonneg ((at' : Int) * 7) (show k ≠ 0 by omega)
      have r2 := Int.emod_lt_of_pos ((at' : Int) * 7) (show 0 < k by omega)
      exact ⟨_, rfl, r1, r2, by omega, HS.out, HG.out⟩
    · obtain ⟨q1, hq1⟩ : ∃ q, q = at' % n := ⟨_, rfl⟩
      obtain ⟨q2, hq2⟩ : ∃ q, q = (at' + 1) % n := ⟨_, rfl⟩
      obtain ⟨p, hp⟩ : ∃ p, p = at' / n := ⟨_, rfl⟩
      have q1n : q1 < n := by rw [hq1]; exact Nat.mod_lt _ (by omega)
      have q2n : q2 < n := by rw [hq2]; exact Nat.mod_lt _ (by omega)
      have hp' : p ≤ 1000 := by have := Nat.div_le_self at' n; omega
      rcases hd with hd | ⟨d, off, rfl, hdB, hc⟩
      · rw [hd] at hl; simp at hl; omega
      have x1 : (w.setCell ⟨b, 1, none⟩ (.int .i64 ((at' : Int) + 1))).cell? ⟨d, off + q1, none⟩ = some (.int .u8 (nth l q1 : Int)) := (hgr.cell_far ⟨d, off + q1, none⟩ (by simp; omega) (by simp; omega)).trans (hc q1 q1n)
      have x2 : (w.setCell ⟨b, 1, none⟩ (.int .i64 ((at' : Int) + 1))).cell? ⟨d, off + q2, none⟩ = some (.int .u8 (nth l q2 : Int)) := (hgr.cell_far ⟨d, off + q2, none⟩ (by simp; omega) (by simp; omega)).trans (hc q2 q2n)
      have b1 := nth_lt hB q1
      have b2 := nth_lt hB q2
      generalize nth l q1 = y1 at *
      generalize nth l q2 = y2 at *
      have e1 : (at' : Int) % (n : Int) = (q1 : Int) := by rw [hq1]; exact (Int.natCast_emod _ _).symm
      have e2 : ((at' : Int) + 1) % (n : Int) = (q2 : Int) := by rw [hq2, Int.natCast_emod]; rfl
      have e3 : (at' : Int) / (n : Int) = (p : Int) := by rw [hp]; exact (Int.natCast_ediv _ _).symm
      have i1 : (q1 : Int) < (n : Int) := by omega
      have i2 : (q2 : Int) < (n : Int) := by omega
      have n0 : ((n : Int) == 0) = false := beq_eq_false_iff_ne.2 (by omega)
      have HF : Hid (_) := hfin
      have HF2 : Hid (_) := hfin2
      clear hc hq1 hq2 hp hS hgr hfin hfin2
      by_cases hk2 : 200 < k
      · go_enter Tryz.func17, Tryz.ntmps17
        go_wp2
        go_quiet (fail)
        go_wp2
        go_quiet (fail)
        go_wp2
        go_ret
        have r1 := Int.emod_nonneg (((y1 : Int) + (p : Int) * 37) * 251 + (y2 : Int) * 13 + (at' : Int)) (show k ≠ 0 by omega)
        have r2 := Int.emod_lt_of_pos (((y1 : Int) + (p : Int) * 37) * 251 + (y2 : Int) * 13 + (at' : Int)) (show 0 < k by omega)
        exact ⟨_, rfl, r1, fun _ => r2, by omega, HF.out _, HF2.out _⟩
      · go_enter Tryz.func17, Tryz.ntmps17
        go_wp2
        go_quiet (fail)
        go_wp2
        go_ret
        have r1 := Int.emod_nonneg ((y1 : Int) + (p : Int) * 37) (show k ≠ 0 by omega)
        have r2 := Int.emod_lt_of_pos ((y1 : Int) + (p : Int) * 37) (show 0 < k by omega)
        exact ⟨_, rfl, r1, fun _ => r2, by omega, HF.out _, HF2.out _⟩
end Go.Proofs.YtknbndebfickpaaGreatDoor

namespace Go.Proofs.YtknbndebfickpaaGreatDoor
open Go.RowKit

set_option maxHeartbeats 800000 in
set_option maxRecDepth 100000 in
theorem l1Source_any (a : Option Addr) (n cap : Nat) (l : List Nat) (w : World) (hl : l.length = n) (hr : Rd w a l) (hB : IsB l) (hn : n ≤ 1048576) :
    Calls Tryz.prog 14 #[.slice a n cap] w fun e w' => e = .returned (.pointer (some ⟨w.heap.size, 0, none⟩)) ∧ Src w' w.heap.size w.heap.size 0 ∧ Below w.heap.size w w' := by
  have hb : Below w.heap.size w (w.alloc (.cells #[.slice a n cap, .int .i64 0] 59)) := (Below.refl _ _).alloc (Nat.le_refl _) _
  have hS : Src (w.alloc (.cells #[.slice a n cap, .int .i64 0] 59)) w.heap.size w.heap.size 0 := by
    refine ⟨Nat.le_refl _, by simp, a, n, cap, 0, l, by simp, by simp, by simp, hl, hn, hB, Nat.le_refl _, ?_⟩
    rcases hr with h | ⟨d, off, e, hlt, hc⟩
    · exact .inl h
    · exact .inr ⟨d, off, e, hlt, fun i hi => (hb.cell (p := ⟨d, off + i, none⟩) hlt).trans (hc i (by omega))⟩
  have HS : Hid (_) := hS
  clear hS
  go_enter Tryz.func14, Tryz.ntmps14
  go_wp2
  go_ret
  exact ⟨rfl, HS.out, hb⟩

set_option maxHeartbeats 800000 in
set_option maxRecDepth 100000 in
theorem l1Chance_any (B b M : Nat) (k : Int) (w : World) (hs : Src w B b M) (hM : M ≤ 1000) (h0 : 0 ≤ k) (hk : k ≤ 1000) :
    Calls Tryz.prog 16 #[.pointer (some ⟨b, 0, none⟩), .int .i64 k] w fun e w' =>
      ∃ q : Bool, e = .returned (.bool q) ∧ Src w' B b (M + 1) ∧ w.grownBy w' (some b) := by
  go_enter Tryz.func16, Tryz.ntmps16
  go_wp2_with fail
  refine (l1Next_any B b M k _ hs hM h0 hk).mono ?_
  rintro e w1 ⟨r, rfl, _, _, _, h1, h2⟩
  have H1 : Hid (_) := h1
  have H2 : Hid (_) := h2
  clear h1 h2
  by_cases hr : r = 0
  · have e0 : (r == 0) = true := beq_iff_eq.2 hr
    go_wp2
    go_ret
    exact Exists.intro true ⟨rfl, H1.out, H2.out⟩
  · have e0 : (r == 0) = false := beq_eq_false_iff_ne.2 hr
    go_wp2
    go_ret
    exact Exists.intro false ⟨rfl, H1.out, H2.out⟩

/-- A row of whole numbers in a block of its own. -/
def Nums (w : World) (g : Nat) (vs : List Int) : Prop := ∀ i, i < vs.length → w.cell? ⟨g, i, none⟩ = some (.int .i64 (vs.getD i 0))

set_option maxHeartbeats 800000 in
set_option maxRecDepth 100000 in
theorem l1Pick_any (B b M g m cap : Nat) (vs : List Int) (w : World) (hs : Src w B b M) (hM : M ≤ 1000) (hm : vs.length = m) (h1 : 1 ≤ m) (h6 : m ≤ 100) (hv : Nums w g vs) (hg : b < g) :
    Calls Tryz.prog 39 #[.pointer (some ⟨b, 0, none⟩), .slice (some ⟨g, 0, none⟩) m cap] w fun e w' =>
      ∃ r : Int, e = .returned (.int .i64 r) ∧ r ∈ vs ∧ Src w' B b (M + 1) ∧ w.grownBy w' (some b) := by
  go_enter Tryz.func39, Tryz.ntmps39
  go_wp2_with fail
  refine (l1Next_any B b M (m : Int) _ hs hM (by omega) (by omega)).mono ?_
  rintro e w1 ⟨r, rfl, r0, r1, _, h1', h2⟩
  obtain ⟨j, rfl⟩ := Int.eq_ofNat_of_zero_le r0
  have hjm : j < m := by have := r1 (by omega); omega
  have hjm' : (j : Int) < (m : Int) := by omega
  have hlt : g < w.heap.size := World.block_lt_of_cell? w _ (hv 0 (by omega))
  have hc : w1.cell? ⟨g, j, none⟩ = some (.int .i64 (vs.getD j 0)) := (h2.cell_far ⟨g, j, none⟩ hlt (by simp; omega)).trans (hv j (by omega))
  have hmem : vs.getD j 0 ∈ vs := by rw [List.getD_eq_getElem?_getD, List.getElem?_eq_getElem (by omega)]; exact List.getElem_mem _
  generalize vs.getD j 0 = x at *
  have H1 : Hid (_) := h1'
  have H2 : Hid (_) := h2
  have H3 : Hid (_) := hmem
  clear h1' h2 hmem hv r1
  go_wp2
  go_ret
  exact ⟨x, rfl, H3.out, H1.out, H2.out⟩

theorem nums_new {w : World} {cs : Array Value} {vs : List Int} {t : TypeId} (h : cs.toList = vs.map (Value.int .i64)) : Nums (w.alloc (.cells cs t)) w.heap.size vs := by
  intro i hi
  rw [World.cell?_alloc_mark, ← Array.getElem?_toList, h]
  simp [hi]

end Go.Proofs.YtknbndebfickpaaGreatDoor

namespace Go.Proofs.YtknbndebfickpaaGreatDoor
open Go.RowKit

/-- How a draw of bytes ends: a plain word, so that no walk opens it. -/
def LongEnd (b C : Nat) (w : World) (e : Ending) (w' : World) : Prop := ∃ (v : Value) (out : List Nat), e = .returned v ∧ Own w' C v out ∧ IsB out ∧ out.length ≤ 401 ∧ Below b w w'
theorem longEnd {b C : Nat} {w w' : World} {v : Value} {out : List Nat} (h1 : Own w' C v out) (h2 : IsB out) (h3 : out.length ≤ 401) (h4 : Below b w w') : LongEnd b C w (.returned v) w' := ⟨v, out, rfl, h1, h2, h3, h4⟩


theorem lwBig_any (a : Option Addr) (n cap : Nat) (w : World) :
    Calls Tryz.prog 4 #[.slice a n cap] w fun e w' => e = .returned (.bool (decide ((1048576 : Int) < (n : Int)))) ∧ w = w' := by
  go_enter Tryz.func4, Tryz.ntmps4
  go_wp2
  go_ret
  exact ⟨rfl, rfl⟩

end Go.Proofs.YtknbndebfickpaaGreatDoor
