/- The model's draws: each ends with some number or bytes within small bounds, and turns nothing that was there; sources of at most 1048576 bytes · More of the model's draws: a source, a chance, a pick, some bytes; each ends within small bounds and turns nothing but its source · Bytes that the model draws: at most 401 of them, in memory of the draw's own; nothing that was there is turned; sources of at most 1048576 bytes · The model's draws of characters: each ends with some numbers, in memory of the draw's own; nothing that was there is turned but the source; sources of at most 1048576 bytes · The draws of chapters 2 and 3: each ends with some numbers, in memory of the draw's own; nothing that was there is turned; sources of at most 1048576 bytes · The draws of chapters 2 and 3, each whole: some numbers and slices of memory of the draw's own; nothing that was there is turned; sources of at most 1048576 bytes · The draw of bytes of a charset: some number and some bytes, in memory of the draw's own; nothing that was there is turned; sources of at most 1048576 bytes. -/
import Derived.Test.YtooifkdbpghcfaaGreatDoorMemToApp
import Derived.Test.YtooifkdbpghcfaaGreatDoorMemIToSee
import Derived.Handy
import Derived.WalkSpells
import Derived.Test.YtooifkdbpghcfaaGreatDoorDec3
namespace Go.Proofs.YtooifkdbpghcfaaGreatDoor
open Go.RowKit

/-- A source of draws, laid at block b: its bytes lie below B, and at most M have been drawn. -/
def Src (w : World) (B b M : Nat) : Prop := B ≤ b ∧ b < w.heap.size ∧ ∃ (a : Option Addr) (n cap at' : Nat) (l : List Nat),
  w.cell? ⟨b, 0, none⟩ = some (.slice a n cap) ∧ w.cell? ⟨b, 1, none⟩ = some (.int .i64 (at' : Int)) ∧ w.frozen? ⟨b, 1, none⟩ = false ∧ l.length = n ∧ n ≤ 1048576 ∧ IsB l ∧ at' ≤ M ∧
  (l = [] ∨ ∃ d off, a = some ⟨d, off, none⟩ ∧ d < B ∧ ∀ i, i < n → w.cell? ⟨d, off + i, none⟩ = some (.int .u8 (nth l i : Int)))
theorem Src.below {w w' : World} {B b M : Nat} (h : Src w B b M) (hb : Below (b + 1) w w') : Src w' B b M := by
  obtain ⟨h1, h2, a, n, cap, at', l, c0, c1, f1, hl, hn, hB, ha, hd⟩ := h
  refine ⟨h1, Nat.lt_of_lt_of_le h2 hb.size, a, n, cap, at', l, (hb.cell (p := ⟨b, 0, none⟩) (by simp)).trans c0, (hb.cell (p := ⟨b, 1, none⟩) (by simp)).trans c1, (hb.frozen (p := ⟨b, 1, none⟩) (by simp)).trans f1, hl, hn, hB, ha, ?_⟩
  rcases hd with hd | ⟨d, off, e, hlt, hc⟩
  · exact .inl hd
  · exact .inr ⟨d, off, e, hlt, fun i hi => (hb.cell (p := ⟨d, off + i, none⟩) (by simp; omega)).trans (hc i hi)⟩
theorem Src.more {w : World} {B b M M' : Nat} (h : Src w B b M) (hM : M ≤ M') : Src w B b M' := by
  obtain ⟨h1, h2, a, n, cap, at', l, c0, c1, f1, hl, hn, hB, ha, hd⟩ := h
  exact ⟨h1, h2, a, n, cap, at', l, c0, c1, f1, hl, hn, hB, by omega, hd⟩
theorem Own.keptG {w w' : World} {B b : Nat} {v : Value} {l : List Nat} (h : Own w B v l) (hg : w.grownBy w' (some b)) (hb : b < B) : Own w' B v l := by
  refine World.ownsRow.kept h hg ?_
  cases hv : v.ownBlock with
  | none => exact .inl rfl
  | some k => right; intro e; have := (h.lt k hv).1; simp at e; omega

set_option maxHeartbeats 3200000 in
set_option maxRecDepth 100000 in
theorem l1Next_any (B b M : Nat) (k : Int) (w : World) (hs : Src w B b M) (hM : M ≤ 100000) (h0 : 0 ≤ k) (hk : k ≤ 1000) :
    Calls Tryz.prog 26 #[.pointer (some ⟨b, 0, none⟩), .int .i64 k] w fun e w' =>
      ∃ r : Int, e = .returned (.int .i64 r) ∧ 0 ≤ r ∧ (1 ≤ k → r < k) ∧ r ≤ 1000 ∧ Src w' B b (M + 1) ∧ w.grownBy w' (some b) := by
  obtain ⟨hBb, hbw, a, n, cap, at', l, c0, c1, f1, hl, hn, hB, ha, hd⟩ := hs
  have d1 : (w.setCell ⟨b, 1, none⟩ (.int .i64 ((at' : Int) + 1))).cell? ⟨b, 1, none⟩ = some (.int .i64 ((at' : Int) + 1)) := World.cell?_setCell_same _ _ _ c1
  have d0 : (w.setCell ⟨b, 1, none⟩ (.int .i64 ((at' : Int) + 1))).cell? ⟨b, 0, none⟩ = some (.slice a n cap) := by simp [go_sem, c0]
  have hgr : w.grownBy (w.setCell ⟨b, 1, none⟩ (.int .i64 ((at' : Int) + 1))) (some b) := ⟨rfl, rfl, rfl, by simp, fun j _ hj => Below.heap_setCell w ⟨b, 1, none⟩ _ j (fun e => hj (by simp [e]))⟩
  have hS : Src (w.setCell ⟨b, 1, none⟩ (.int .i64 ((at' : Int) + 1))) B b (M + 1) := by
    refine ⟨hBb, by simpa using hbw, a, n, cap, at' + 1, l, d0, by rw [d1]; rfl, (World.frozen?_setCell _ _ _ _).trans f1, hl, hn, hB, by omega, ?_⟩
    rcases hd with hd | ⟨d, off, e, hlt, hc⟩
    · exact .inl hd
    · exact .inr ⟨d, off, e, hlt, fun i hi => (hgr.cell_far ⟨d, off + i, none⟩ (by simp; omega) (by simp; omega)).trans (hc i hi)⟩
  have HS : Hid (_) := hS
  have HG : Hid (_) := hgr
  have hfin : ∀ j, Src ((w.setCell ⟨b, 1, none⟩ (.int .i64 ((at' : Int) + 1))).drewN j) B b (M + 1) := fun j => hS
  have hfin2 : ∀ j, w.grownBy ((w.setCell ⟨b, 1, none⟩ (.int .i64 ((at' : Int) + 1))).drewN j) (some b) := fun j => ⟨hgr.os, hgr.tape, hgr.output, hgr.size, hgr.block⟩
  by_cases hk1 : k < 1
  · clear hfin hfin2 hS hgr hd
    go_enter Tryz.func26, Tryz.ntmps26
    go_wp2
    go_ret
    exact ⟨0, rfl, by omega, by omega, by omega, HS.out, HG.out⟩
  · by_cases hn0 : n = 0
    · subst hn0
      clear hfin hfin2 hS hgr hd
      go_enter Tryz.func26, Tryz.ntmps26
      go_wp2
      go_ret
      have r1 := Int.emod_nonneg ((at' : Int) * 7) (show k ≠ 0 by omega)
      have r2 := Int.emod_lt_of_pos ((at' : Int) * 7) (show 0 < k by omega)
      exact ⟨_, rfl, r1, r2, by omega, HS.out, HG.out⟩
    · obtain ⟨q1, hq1⟩ : ∃ q, q = at' % n := ⟨_, rfl⟩
      obtain ⟨q2, hq2⟩ : ∃ q, q = (at' + 1) % n := ⟨_, rfl⟩
      obtain ⟨p, hp⟩ : ∃ p, p = at' / n := ⟨_, rfl⟩
      have q1n : q1 < n := by rw [hq1]; exact Nat.mod_lt _ (by omega)
      have q2n : q2 < n := by rw [hq2]; exact Nat.mod_lt _ (by omega)
      have hp' : p ≤ 100000 := by have := Nat.div_le_self at' n; omega
      rcases hd with hd | ⟨d, off, rfl, hdB, hc⟩
      · rw [hd] at hl; simp at hl; omega
      have x1 : (w.setCell ⟨b, 1, none⟩ (.int .i64 ((at' : Int) + 1))).cell? ⟨d, off + q1, none⟩ = some (.int .u8 (nth l q1 : Int)) := (hgr.cell_far ⟨d, off + q1, none⟩ (by simp; omega) (by simp; omega)).trans (hc q1 q1n)
      have x2 : (w.setCell ⟨b, 1, none⟩ (.int .i64 ((at' : Int) + 1))).cell? ⟨d, off + q2, none⟩ = some (.int .u8 (nth l q2 : Int)) := (hgr.cell_far ⟨d, off + q2, none⟩ (by simp; omega) (by simp; omega)).trans (hc q2 q2n)
      have b1 := nth_lt hB q1
      have b2 := nth_lt hB q2
      generalize nth l q1 = y1 at *
      generalize nth l q2 = y2 at *
      have e1 : (at' : Int) % (n : Int) = (q1 : Int) := by rw [hq1]; exact (Int.natCast_emod _ _).symm
      have e2 : ((at' : Int) + 1) % (n : Int) = (q2 : Int) := by rw [hq2, Int.natCast_emod]; rfl
      have e3 : (at' : Int) / (n : Int) = (p : Int) := by rw [hp]; exact (Int.natCast_ediv _ _).symm
      have i1 : (q1 : Int) < (n : Int) := by omega
      have i2 : (q2 : Int) < (n : Int) := by omega
      have n0 : ((n : Int) == 0) = false := beq_eq_false_iff_ne.2 (by omega)
      have HF : Hid (_) := hfin
      have HF2 : Hid (_) := hfin2
      clear hc hq1 hq2 hp hS hgr hfin hfin2
      by_cases hk2 : 200 < k
      · go_enter Tryz.func26, Tryz.ntmps26
        go_wp2
        go_quiet (fail)
        go_wp2
        go_quiet (fail)
        go_wp2
        go_ret
        have r1 := Int.emod_nonneg (((y1 : Int) + (p : Int) * 37) * 251 + (y2 : Int) * 13 + (at' : Int)) (show k ≠ 0 by omega)
        have r2 := Int.emod_lt_of_pos (((y1 : Int) + (p : Int) * 37) * 251 + (y2 : Int) * 13 + (at' : Int)) (show 0 < k by omega)
        exact ⟨_, rfl, r1, fun _ => r2, by omega, HF.out _, HF2.out _⟩
      · go_enter Tryz.func26, Tryz.ntmps26
        go_wp2
        go_quiet (fail)
        go_wp2
        go_ret
        have r1 := Int.emod_nonneg ((y1 : Int) + (p : Int) * 37) (show k ≠ 0 by omega)
        have r2 := Int.emod_lt_of_pos ((y1 : Int) + (p : Int) * 37) (show 0 < k by omega)
        exact ⟨_, rfl, r1, fun _ => r2, by omega, HF.out _, HF2.out _⟩
end Go.Proofs.YtooifkdbpghcfaaGreatDoor

namespace Go.Proofs.YtooifkdbpghcfaaGreatDoor
open Go.RowKit

set_option maxHeartbeats 800000 in
set_option maxRecDepth 100000 in
theorem l1Source_any (a : Option Addr) (n cap : Nat) (l : List Nat) (w : World) (hl : l.length = n) (hr : Rd w a l) (hB : IsB l) (hn : n ≤ 1048576) :
    Calls Tryz.prog 23 #[.slice a n cap] w fun e w' => e = .returned (.pointer (some ⟨w.heap.size, 0, none⟩)) ∧ Src w' w.heap.size w.heap.size 0 ∧ Below w.heap.size w w' := by
  have hb : Below w.heap.size w (w.alloc (.cells #[.slice a n cap, .int .i64 0] 88)) := (Below.refl _ _).alloc (Nat.le_refl _) _
  have hS : Src (w.alloc (.cells #[.slice a n cap, .int .i64 0] 88)) w.heap.size w.heap.size 0 := by
    refine ⟨Nat.le_refl _, by simp, a, n, cap, 0, l, by simp, by simp, by simp, hl, hn, hB, Nat.le_refl _, ?_⟩
    rcases hr with h | ⟨d, off, e, hlt, hc⟩
    · exact .inl h
    · exact .inr ⟨d, off, e, hlt, fun i hi => (hb.cell (p := ⟨d, off + i, none⟩) hlt).trans (hc i (by omega))⟩
  have HS : Hid (_) := hS
  clear hS
  go_enter Tryz.func23, Tryz.ntmps23
  go_wp2
  go_ret
  exact ⟨rfl, HS.out, hb⟩

set_option maxHeartbeats 800000 in
set_option maxRecDepth 100000 in
theorem l1Chance_any (B b M : Nat) (k : Int) (w : World) (hs : Src w B b M) (hM : M ≤ 100000) (h0 : 0 ≤ k) (hk : k ≤ 1000) :
    Calls Tryz.prog 56 #[.pointer (some ⟨b, 0, none⟩), .int .i64 k] w fun e w' =>
      ∃ q : Bool, e = .returned (.bool q) ∧ Src w' B b (M + 1) ∧ w.grownBy w' (some b) := by
  go_enter Tryz.func56, Tryz.ntmps56
  go_wp2_with fail
  refine (l1Next_any B b M k _ hs hM h0 hk).mono ?_
  rintro e w1 ⟨r, rfl, _, _, _, h1, h2⟩
  have H1 : Hid (_) := h1
  have H2 : Hid (_) := h2
  clear h1 h2
  by_cases hr : r = 0
  · have e0 : (r == 0) = true := beq_iff_eq.2 hr
    go_wp2
    go_ret
    exact Exists.intro true ⟨rfl, H1.out, H2.out⟩
  · have e0 : (r == 0) = false := beq_eq_false_iff_ne.2 hr
    go_wp2
    go_ret
    exact Exists.intro false ⟨rfl, H1.out, H2.out⟩

/-- A row of whole numbers in a block of its own. -/
def Nums (w : World) (g : Nat) (vs : List Int) : Prop := ∀ i, i < vs.length → w.cell? ⟨g, i, none⟩ = some (.int .i64 (vs.getD i 0))

set_option maxHeartbeats 800000 in
set_option maxRecDepth 100000 in
theorem l1Pick_any (B b M g m cap : Nat) (vs : List Int) (w : World) (hs : Src w B b M) (hM : M ≤ 100000) (hm : vs.length = m) (h1 : 1 ≤ m) (h6 : m ≤ 100) (hv : Nums w g vs) (hg : b < g) :
    Calls Tryz.prog 25 #[.pointer (some ⟨b, 0, none⟩), .slice (some ⟨g, 0, none⟩) m cap] w fun e w' =>
      ∃ r : Int, e = .returned (.int .i64 r) ∧ r ∈ vs ∧ Src w' B b (M + 1) ∧ w.grownBy w' (some b) := by
  go_enter Tryz.func25, Tryz.ntmps25
  go_wp2_with fail
  refine (l1Next_any B b M (m : Int) _ hs hM (by omega) (by omega)).mono ?_
  rintro e w1 ⟨r, rfl, r0, r1, _, h1', h2⟩
  obtain ⟨j, rfl⟩ := Int.eq_ofNat_of_zero_le r0
  have hjm : j < m := by have := r1 (by omega); omega
  have hjm' : (j : Int) < (m : Int) := by omega
  have hlt : g < w.heap.size := World.block_lt_of_cell? w _ (hv 0 (by omega))
  have hc : w1.cell? ⟨g, j, none⟩ = some (.int .i64 (vs.getD j 0)) := (h2.cell_far ⟨g, j, none⟩ hlt (by simp; omega)).trans (hv j (by omega))
  have hmem : vs.getD j 0 ∈ vs := by rw [List.getD_eq_getElem?_getD, List.getElem?_eq_getElem (by omega)]; exact List.getElem_mem _
  generalize vs.getD j 0 = x at *
  have H1 : Hid (_) := h1'
  have H2 : Hid (_) := h2
  have H3 : Hid (_) := hmem
  clear h1' h2 hmem hv r1
  go_wp2
  go_ret
  exact ⟨x, rfl, H3.out, H1.out, H2.out⟩

theorem nums_new {w : World} {cs : Array Value} {vs : List Int} {t : TypeId} (h : cs.toList = vs.map (Value.int .i64)) : Nums (w.alloc (.cells cs t)) w.heap.size vs := by
  intro i hi
  rw [World.cell?_alloc_mark, ← Array.getElem?_toList, h]
  simp [hi]

end Go.Proofs.YtooifkdbpghcfaaGreatDoor

namespace Go.Proofs.YtooifkdbpghcfaaGreatDoor
open Go.RowKit

theorem lwBig_any (a : Option Addr) (n cap : Nat) (w : World) :
    Calls Tryz.prog 5 #[.slice a n cap] w fun e w' => e = .returned (.bool (decide ((1048576 : Int) < (n : Int)))) ∧ w = w' := by
  go_enter Tryz.func5, Tryz.ntmps5
  go_wp2
  go_ret
  exact ⟨rfl, rfl⟩

set_option maxHeartbeats 800000 in
set_option maxRecDepth 100000 in
theorem lwSame_any (a c : Option Addr) (n cap cap' : Nat) (l : List Nat) (w : World) (hl : l.length = n) (hr : Rd w a l) (hs : Rd w c l) :
    Calls Tryz.prog 12 #[.slice a n cap, .slice c n cap'] w fun e w' => e = .returned (.bool true) ∧ w = w' := by
  have h1 := fun x => run_str (cap := x) hl hr
  have h2 := fun x => run_str (cap := x) hl hs
  go_enter Tryz.func12, Tryz.ntmps12
  go_wp2
  go_ret
  exact ⟨rfl, rfl⟩
end Go.Proofs.YtooifkdbpghcfaaGreatDoor

namespace Go.Proofs.YtooifkdbpghcfaaGreatDoor
open Go.RowKit

theorem OwnI.keptG {w w' : World} {B b : Nat} {v : Value} {l : List Int} (h : OwnI w B v l) (hg : w.grownBy w' (some b)) (hb : b < B) : OwnI w' B v l := by
  refine World.ownsRow.kept h hg ?_
  cases hv : v.ownBlock with
  | none => exact .inl rfl
  | some k => right; intro e; have := (h.lt k hv).1; simp at e; omega
theorem gthen {w w1 w2 : World} {row : Option Nat} (h : w.grownBy w1 row) (k : w1.grownBy w2 row) : w.grownBy w2 row := ⟨k.os.trans h.os, k.tape.trans h.tape, k.output.trans h.output, Nat.le_trans h.size k.size, fun g hg hne => (k.block g (Nat.lt_of_lt_of_le hg h.size) hne).trans (h.block g hg hne)⟩
theorem glow {w w1 w2 : World} {row : Option Nat} (h : w.grownBy w1 row) (k : Below w.heap.size w1 w2) : w.grownBy w2 row := ⟨k.os.trans h.os, k.tape.trans h.tape, k.output.trans h.output, Nat.le_trans h.size k.size, fun g hg hne => (k.block g hg).trans (h.block g hg hne)⟩
theorem gnew {w w1 : World} {row : Option Nat} (h : w.grownBy w1 row) (o : Obj) : w.grownBy (w1.alloc o) row := gthen h (World.grownBy_alloc _ _ _)
theorem gbelow {w w1 : World} {b : Nat} (h : w.grownBy w1 (some b)) (hb : b < w.heap.size) : Below b w w1 := (Below.refl _ _).grown h (by omega) (by intro k hk; simp at hk; omega)
/-- How a draw of numbers ends: a plain word, so that no walk opens it. -/
def NumsEnd (B b M K : Nat) (V : List Int → Prop) (w : World) (e : Ending) (w' : World) : Prop := ∃ (v : Value) (out : List Int), e = .returned v ∧ OwnI w' w.heap.size v out ∧ out.length ≤ K ∧ V out ∧ Src w' B b M ∧ w.grownBy w' (some b)
theorem numsEnd {B b M K : Nat} {V : List Int → Prop} {w w' : World} {v : Value} {out : List Int} (h1 : OwnI w' w.heap.size v out) (h3 : out.length ≤ K) (h2 : V out) (h5 : Src w' B b M) (h4 : w.grownBy w' (some b)) : NumsEnd B b M K V w (.returned v) w' := ⟨v, out, rfl, h1, h3, h2, h5, h4⟩
def Any (_ : List Int) : Prop := True
/-- The characters that the model draws. -/
def Drawn (l : List Int) : Prop := ∀ x ∈ l, x ∈ [97, 66, 32, 228, 1078, 1046, 8470, 167, 8364, 127, 160, 1037, (0 : Int)]
theorem Drawn.nil : Drawn [] := fun _ h => by simp at h
theorem Drawn.snoc {l : List Int} {x : Int} (h : Drawn l) (hx : x ∈ [97, 66, 32, 228, 1078, 1046, 8470, 167, 8364, 127, 160, (1037 : Int)]) : Drawn (l ++ [x]) := fun y hy => by
  rcases List.mem_append.1 hy with hy | hy
  · exact h y hy
  · rw [List.mem_singleton] at hy
    subst hy
    simp only [List.mem_cons, List.not_mem_nil, or_false] at hx ⊢
    omega
/-- How a draw of one number ends. -/
def OneEnd (B b M : Nat) (w : World) (e : Ending) (w' : World) : Prop := ∃ r : Int, e = .returned (.int .i64 r) ∧ Src w' B b M ∧ w.grownBy w' (some b)

set_option maxHeartbeats 1600000 in
set_option maxRecDepth 100000 in
theorem l2Codes_any (B b M : Nat) (w : World) (hs : Src w B b M) (hM : M ≤ 99000) :
    Calls Tryz.prog 109 #[.pointer (some ⟨b, 0, none⟩)] w fun e w' => NumsEnd B b (M + 6) 6 Drawn w e w' := by
  obtain ⟨hBb, hbw, _⟩ := id hs
  have hown0 : OwnI (w.alloc (.cells #[] 2)) w.heap.size (.slice (some ⟨w.heap.size, 0, none⟩) 0 0) [] := OwnI.lit w _ (Nat.le_refl _) #[] [] rfl (by decide)
  have hbel0 : w.grownBy (w.alloc (.cells #[] 2)) (some b) := World.grownBy_alloc _ _ _
  have hs0 : Src (w.alloc (.cells #[] 2)) B b M := hs.below ((Below.refl _ _).alloc (by omega) _)
  go_enter Tryz.func109, Tryz.ntmps109
  go_wp2_with fail
  refine (l1Next_any B b M 6 _ hs0 (by omega) (by omega) (by omega)).mono ?_
  rintro e w1 ⟨r, rfl, r0, r1, _, hs1, hg1⟩
  obtain ⟨n, rfl⟩ := Int.eq_ofNat_of_zero_le r0
  have hn6 : n < 6 := by have := r1 (by omega); omega
  have hown1 := hown0.keptG hg1 (by omega)
  have hb1 : w.grownBy w1 (some b) := gthen hbel0 hg1
  have HA : Hid (OwnI w1 w.heap.size (.slice (some ⟨w.heap.size, 0, none⟩) 0 0) [] ∧ Src w1 B b (M + 1) ∧ w.grownBy w1 (some b)) := ⟨hown1, hs1, hb1⟩
  clear hs hs0 hg1 hown0 hbel0 hown1 hs1 hb1 r1
  go_wp2
  go_loopw [3, 4] (fun v j wr => ∃ (i : Nat) (out : List Int), i ≤ n ∧ j = .int .i64 ((n - i : Nat) : Int) ∧ OwnI wr w.heap.size v out ∧ out.length = i ∧ Drawn out ∧ Src wr B b (M + 1 + i) ∧ w.grownBy wr (some b))
    (fun _ j _ => (intOf j).toNat)
  case atStart => exact ⟨0, [], by omega, rfl, HA.out.1, rfl, Drawn.nil, HA.out.2.1, HA.out.2.2⟩
  case round =>
    obtain ⟨i, out, hi, rfl, hown, hol, hV, hsr, hbel⟩ := hrel
    clear HA
    have hz := hbel.size
    by_cases hin : i < n
    · have hj : (0 : Int) < ((n - i : Nat) : Int) := by omega
      obtain ⟨_, hbr, _⟩ := id hsr
      have hs1' : Src (wr.alloc (.cells #[.int .i64 97, .int .i64 66, .int .i64 32, .int .i64 228, .int .i64 1078, .int .i64 1046, .int .i64 8470, .int .i64 167, .int .i64 8364, .int .i64 127, .int .i64 160, .int .i64 1037] 2)) B b (M + 1 + i) := hsr.below ((Below.refl _ _).alloc (by omega) _)
      go_wp2_with fail
      refine (l1Pick_any B b (M + 1 + i) _ 12 12 [97, 66, 32, 228, 1078, 1046, 8470, 167, 8364, 127, 160, 1037] _ hs1' (by omega) rfl (by omega) (by omega) (nums_new rfl) (by omega)).mono ?_
      rintro e w2 ⟨x, rfl, hx, hs2, hg2⟩
      have ho2 := (hown.alloc (.cells #[.int .i64 97, .int .i64 66, .int .i64 32, .int .i64 228, .int .i64 1078, .int .i64 1046, .int .i64 8470, .int .i64 167, .int .i64 8364, .int .i64 127, .int .i64 160, .int .i64 1037] 2)).keptG hg2 (by omega)
      have hb2 : w.grownBy w2 (some b) := gthen (gnew hbel _) hg2
      have hz2 : wr.heap.size + 1 ≤ w2.heap.size := by have := hg2.size; simpa using this
      have HS2 : Hid (Src w2 B b (M + 1 + i + 1)) := hs2
      have HV : Hid (Drawn (out ++ [x])) := hV.snoc hx
      clear hV
      clear hs1' hg2 hx hsr hown hs2
      go_wp2_with (at_builtin; refine wpList_app_newI rfl _ _ rfl w.heap.size _ out rfl ho2 1 1 [x] rfl rfl rfl (by omega) (by omega) ?_; intro v' w3 hown' hb')
      have hs3 : Hid (Src w3 B b (M + 1 + (i + 1))) := Src.below (w := w2) HS2.out (hb'.mono (by omega))
      go_wp2
      go_roundw
      case rel => exact ⟨i + 1, out ++ [x], by omega, by go_num, hown', by simp; omega, HV.out, hs3.out, glow hb2 hb'⟩
      case measure => simp [intOf]; omega
    · have hii : i = n := by omega
      have hj : ¬ (0 : Int) < ((n - i : Nat) : Int) := by omega
      subst hii
      have HF : Hid (NumsEnd B b (M + 6) 6 Drawn w (.returned _) wr) := numsEnd hown (by omega) hV (hsr.more (by omega)) hbel
      clear hown hsr hV
      go_wp2
      go_ret
      exact HF.out

end Go.Proofs.YtooifkdbpghcfaaGreatDoor

namespace Go.Proofs.YtooifkdbpghcfaaGreatDoor
open Go.RowKit

theorem l2Draw_any (B b M : Nat) (w : World) (hs : Src w B b M) (hM : M ≤ 900) :
    Calls Tryz.prog 41 #[.pointer (some ⟨b, 0, none⟩)] w fun e w' => OneEnd B b (M + 1) w e w' := by
  obtain ⟨hBb, hbw, _⟩ := id hs
  have hs1 : Src (w.alloc (.cells #[.int .i64 1, .int .i64 2, .int .i64 3, .int .i64 4, .int .i64 5, .int .i64 4, .int .i64 3, .int .i64 0, .int .i64 6] 2)) B b M := hs.below ((Below.refl _ _).alloc (by omega) _)
  go_enter Tryz.func41, Tryz.ntmps41
  go_wp2_with fail
  refine (l1Pick_any B b M _ 9 9 [1, 2, 3, 4, 5, 4, 3, 0, 6] _ hs1 (by omega) rfl (by omega) (by omega) (nums_new rfl) (by omega)).mono ?_
  rintro e w2 ⟨x, rfl, hx, hs2, hg2⟩
  have hb2 : w.grownBy w2 (some b) := gthen (World.grownBy_alloc _ _ _) hg2
  have HF : Hid (OneEnd B b (M + 1) w (.returned (.int .i64 x)) w2) := ⟨x, rfl, hs2, hb2⟩
  clear hs2 hg2 hx hb2 hs1 hs
  go_wp2
  go_ret
  exact HF.out

end Go.Proofs.YtooifkdbpghcfaaGreatDoor

namespace Go.Proofs.YtooifkdbpghcfaaGreatDoor
open Go.RowKit

/-- A slice of numbers that can be read. -/
def Sl (w : World) (v : Value) (l : List Int) : Prop := ∃ (a : Option Addr) (n cap : Nat), v = .slice a n cap ∧ l.length = n ∧ n ≤ cap ∧ n ≤ 1000 ∧ RdI w a l
theorem Sl.below {w w' : World} {v : Value} {l : List Int} (h : Sl w v l) (hb : Below w.heap.size w w') : Sl w' v l := by
  obtain ⟨a, n, cap, e, h1, h2, h3, h4⟩ := h
  exact ⟨a, n, cap, e, h1, h2, h3, h4.below hb⟩
theorem OwnI.sl {w : World} {B : Nat} {v : Value} {l : List Int} (h : OwnI w B v l) (hl : l.length ≤ 1000) : Sl w v l := by
  obtain ⟨a, cap, rfl, h2, _⟩ := h.form
  exact ⟨a, _, cap, rfl, rfl, h2, hl, h.rd.2⟩
end Go.Proofs.YtooifkdbpghcfaaGreatDoor

namespace Go.Proofs.YtooifkdbpghcfaaGreatDoor
open Go.RowKit

theorem encV_isB {cs : Int} {l : List Int} (hcs : 1 ≤ cs ∧ cs ≤ 5) (hch : ∀ x ∈ l, chr x = true) : IsB (encV cs l).2 := by
  unfold encV
  split
  · rename_i ha
    split
    · intro b hb; simp at hb
    · intro b hb
      obtain ⟨x, hx, hbx⟩ := List.mem_flatMap.1 hb
      exact tellL_isB hcs (hch x hx) (List.all_eq_true.1 ha x hx) b hbx
  · intro b hb; simp at hb
theorem encV_short (cs : Int) (l : List Int) : (encV cs l).2.length ≤ 400 := by
  unfold encV
  split
  · split
    · simp
    · simp only; omega
  · simp
end Go.Proofs.YtooifkdbpghcfaaGreatDoor
