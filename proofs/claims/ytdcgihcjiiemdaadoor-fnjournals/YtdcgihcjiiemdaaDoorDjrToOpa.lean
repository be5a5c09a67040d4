/- The draw of bytes in which a journal is read; no conditions beyond those that each fact names · The laws' helpers over slices of ops: their size, a copy, whether two are the same; no conditions beyond those that each fact names · Rows of ops of the call's own: an append that leaves every block but the row's own, and where the row lies then; ops that lie in spans of blocks, one behind the other, beside the row; no conditions beyond those that each fact names. -/
import Derived.Test.YtdcgihcjiiemdaaDoorLgkToJnw
import Derived.Test.YtdcgihcjiiemdaaDoorDotToOsb
import Derived.Test.YtdcgihcjiiemdaaDoorRjaToOsw
import Derived.Maps.AppendAt
namespace Go.Proofs.YtdcgihcjiiemdaaDoor
open Go.RowKit
set_option linter.unusedVariables false
theorem xor_u84 (x : Nat) (h : x < 256) : bits .xor .u8 (x : Int) 4 = ((x ^^^ 4 : Nat) : Int) := by
 have := xor_u8 x (3 + 1) h (by omega)
 simpa using this
set_option maxHeartbeats 3200000 in
set_option maxRecDepth 100000 in
theorem drawReadJournal_any (a : Option Addr) (n cap : Nat) (l : List Nat) (w : World) (hl : l.length = n) (hr : Rd w a l) (hB0 : IsB l) (hn : n ≤ 1048576) :
  Calls Tryd.prog 15 #[.slice a n cap] w fun e w' => RbDr w e w' := by
 go_enter Tryd.func15, Tryd.ntmps15
 go_wp2_with fail
 refine (l1Source_any a n cap l w hl hr hB0 hn).mono ?_
 rintro e w1 ⟨rfl, hs1, hb1⟩
 have hbw : w.heap.size < w1.heap.size := hs1.2.1
 have hA : Below w1.heap.size w1 (w1.alloc (.cells #[] 5)) := (Below.refl _ _).alloc (Nat.le_refl _) _
 have hG0 : Gr (w1.alloc (.cells #[] 5)) (w.heap.size + 1) (.slice (some ⟨w1.heap.size, 0, none⟩) 0 0) [] := Gr.zeros w1 (w.heap.size + 1) 0 (by omega) #[] (by simp) (Nat.zero_le _)
 have hsA := hs1.below (hA.mono hbw)
 have hBA := hb1.trans (hA.mono hb1.size)
 have hzA : (w1.alloc (.cells #[] 5)).heap.size = w1.heap.size + 1 := by simp
 clear hs1 hb1 hA
 go_wp2_with fail
 generalize w1.alloc (.cells #[] 5) = W1 at *
 refine (l1Next_any w.heap.size w.heap.size 0 5 W1 hsA (by omega) (by omega) (by omega)).mono ?_
 rintro e w2 ⟨r, rfl, r0, r1, -, hs2, hg2⟩
 obtain ⟨N, rfl⟩ := Int.eq_ofNat_of_zero_le r0
 have hN5 : N < 5 := by have := r1 (by omega); omega
 have hG2 := hG0.kbJ hg2 (by omega)
 have hB2 := hBA.trans (gbelow hg2 hsA.2.1)
 have HA : Hid (Gr w2 (w.heap.size + 1) (.slice (some ⟨w1.heap.size, 0, none⟩) 0 0) [] ∧ Src w2 w.heap.size w.heap.size (0 + 1) ∧ Below w.heap.size w w2) := ⟨hG2, hs2, hB2⟩
 clear hG0 hsA hBA hg2 hs2 hG2 hB2 r0 r1
 go_wp2
 go_loopw [4, 5] (fun v k wr => ∃ (i : Nat) (D : List Nat), i ≤ N ∧ k = .int .i64 ((N - i : Nat) : Int) ∧ Gr wr (w.heap.size + 1) v D ∧ IsB D ∧ D.length ≤ 644 * i ∧ Src wr w.heap.size w.heap.size (1 + 60 * i) ∧ Below w.heap.size w wr)
  (fun _ k _ => (intOf k).toNat)
 case atStart => exact ⟨0, [], by omega, rfl, HA.out.1, fun z hz => (by cases hz), by simp, HA.out.2.1, HA.out.2.2⟩
 case round =>
  obtain ⟨i, D, hi, rfl, hgr, hBD, hDl, hsr, hBr⟩ := hrel
  clear HA
  have hzr : w.heap.size < wr.heap.size := hsr.2.1
  by_cases hin : i < N
  ·have hj : (0 : Int) < ((N - i : Nat) : Int) := by omega
   have HBD : Hid (IsB D) := hBD
   clear hBD
   go_wp2_with fail
   refine (l8Draw_any w.heap.size w.heap.size (1 + 60 * i) wr hsr (by omega)).mono ?_
   rintro e w2 ⟨⟨ok, ox, ot, ou, om, of0, od, ob⟩, ⟨⟨pa, pn, pc⟩, qa, qn, qc⟩, rfl, hI, hK, hs2, hk2⟩
   have hgr2 := hgr.kbJ hk2 (by omega)
   have hBe2 : Below w.heap.size w w2 := hBr.trans (gbelow hk2 hsr.2.1)
   have h23 : Below w2.heap.size w2 (w2.alloc (.cells #[.int .i64 ok, .string ox, .string ot, .slice pa pn pc, .int .i64 om, .int .i64 of0, .int .i64 od, .slice qa qn qc] 27)) := (Below.refl _ _).alloc (Nat.le_refl _) _
   have hQ3 : Qo (w2.alloc (.cells #[.int .i64 ok, .string ox, .string ot, .slice pa pn pc, .int .i64 om, .int .i64 of0, .int .i64 od, .slice qa qn qc] 27)) w2.heap.size (opQ ⟨ok, ox, ot, ou, om, of0, od, ob⟩ ((pa, pn, pc), (qa, qn, qc))) := Qo.new _ _ _ _ _ _ _ _ _ _
   have hI3 := hI.below h23
   have hgr3 := hgr2.below h23 (Nat.le_refl _)
   have hs3 := hs2.below (h23.mono hs2.2.1)
   have hBe3 := hBe2.trans (h23.mono hBe2.size)
   have hz3 : w.heap.size < (w2.alloc (.cells #[.int .i64 ok, .string ox, .string ot, .slice pa pn pc, .int .i64 om, .int .i64 of0, .int .i64 od, .slice qa qn qc] 27)).heap.size := by have := hBe2.size; simp; omega
   dsimp only [opX, slW]
   clear hgr hsr hBr hgr2 hs2 hBe2 h23 hI hk2
   go_wp2_with fail
   generalize (w2.alloc (.cells #[.int .i64 ok, .string ox, .string ot, .slice pa pn pc, .int .i64 om, .int .i64 of0, .int .i64 od, .slice qa qn qc] 27)) = W3 at *
   generalize w2.heap.size = R at *
   have HBP : Hid (IsB (pkO ⟨ok, ox, ot, ou, om, of0, od, ob⟩)) := pkO_isB hK hI3.2.2.2.2.1
   have hpl : 14 ≤ (pkO ⟨ok, ox, ot, ou, om, of0, od, ob⟩).length ∧ (pkO ⟨ok, ox, ot, ou, om, of0, od, ob⟩).length ≤ 644 := by
    have h1 := hK.x; have h2 := hK.t; have h3 := hK.u; have h4 := hK.b
    rw [pkO_len]
    dsimp only at h1 h2 h3 h4 ⊢
    omega
   obtain ⟨ga, ca, rfl, hga, hca, hcva⟩ := id hgr3
   refine (l9Pack_any ⟨ok, ox, ot, ou, om, of0, od, ob⟩ ((pa, pn, pc), (qa, qn, qc)) R W3 hI3 hQ3 hK).mono ?_
   rintro e w4 ⟨v4, rfl, hg4, hb4⟩
   have hBe4 := hBe3.trans (hb4.mono hBe3.size)
   have hs4 := hs3.below (hb4.mono hz3)
   have hgr4 := hgr3.below hb4 (Nat.le_refl _)
   have hz4 : W3.heap.size ≤ w4.heap.size := hb4.size
   obtain ⟨g4, c4, rfl, -, -, hcv4⟩ := hg4
   have hrd4 := hcv4.rd
   clear hI3 hK hQ3 hs3 hBe3 hgr3 hcva hcv4 hb4
   generalize pkO ⟨ok, ox, ot, ou, om, of0, od, ob⟩ = PK at *
   go_wp2_with (at_builtin; refine wpList_app_grx rfl _ _ 22 rfl (w.heap.size + 1) _ D (by rfl) hgr4 _ _ PK (by rfl) (src_slice rfl hrd4 (fun h => by cases h)) rfl (by omega) (by omega) ?_; intro v7 w7 hg7 hb7)
   have hBe7 := hBe4.trans (hb7.mono (by omega))
   have hs7 := hs4.below (hb7.mono (by omega))
   have HR : Hid (IsB (D ++ PK) ∧ (D ++ PK).length ≤ 644 * (i + 1) ∧ Src w7 w.heap.size w.heap.size (1 + 60 * (i + 1)) ∧ Below w.heap.size w w7) := ⟨fun z hz => (List.mem_append.1 hz).elim (HBD.out z) (HBP.out z), by rw [List.length_append]; omega, hs7.more (by omega), hBe7⟩
   clear hgr4 hrd4 hs4 hBe4 hs7 hBe7 hb7
   go_wp2
   go_roundw
   case rel => exact ⟨i + 1, D ++ PK, by omega, by go_num, hg7, HR.out.1, HR.out.2.1, HR.out.2.2.1, HR.out.2.2.2⟩
   case measure => simp [intOf]; omega
  ·have hii : i = N := by omega
   have hj : ¬ (0 : Int) < ((N - i : Nat) : Int) := by omega
   obtain ⟨g, c, rfl, hgB, hcm, hcv⟩ := hgr
   have hgw : w.heap.size ≠ g := by omega
   have hDn : D.length ≤ 2576 := by omega
   obtain ⟨L, hL⟩ : ∃ L, D.length = L := ⟨_, rfl⟩
   rw [hL] at hcv hDn ⊢
   have HL : Hid (D.length = L) := hL
   have HBD : Hid (IsB D) := hBD
   clear hL hBD hDl
   go_wp2_with fail
   refine (l1Next_any w.heap.size w.heap.size _ 5 wr hsr (by omega) (by omega) (by omega)).mono ?_
   rintro e w8 ⟨r8, rfl, r0, r1, -, hs8, hg8⟩
   have hcv8 := hcv.kept hg8 hgw
   have hBe8 := hBr.trans (gbelow hg8 hsr.2.1)
   clear hcv hsr hg8 hBr r0 r1
   by_cases h0 : r8 = 0
   ·subst h0
    by_cases hL0 : 0 < L
    ·have hLi : (0 : Int) < (L : Int) := by omega
     go_wp2_with fail
     refine (l1NextW_any w.heap.size w.heap.size _ (L : Int) w8 hs8 (by omega) (by omega) (by omega)).mono ?_
     rintro e w9 ⟨q, rfl, q0, q1, hs9, hg9⟩
     obtain ⟨j, rfl⟩ := Int.eq_ofNat_of_zero_le q0
     have hj : j < L := by have := q1 (by omega); omega
     have hji : (j : Int) < (L : Int) := by omega
     have hcv9 := hcv8.kept hg9 hgw
     have hBe9 := hBe8.trans (gbelow hg9 hs8.2.1)
     have hcl := hcv9.2.2.2.1 j hj
     have hfz := (hcv9.2.2.2.2 j (by have := hcv9.2.1; omega)).2
     have hD8 : nth D j < 256 := HBD.out _ (nth_mem8 (by rw [HL.out]; exact hj))
     have hy8 : nth D j ^^^ 4 < 256 := xor_lt8 hD8 (by omega)
     have HX : Hid (bits .xor .u8 (nth D j : Int) 4 = ((nth D j ^^^ 4 : Nat) : Int)) := xor_u84 _ hD8
     have hgg : w.heap.size ≤ g := by omega
     have HF : Hid (RbDr w (.returned (.slice (some ⟨g, 0, none⟩) L c)) (w9.setCell ⟨g, j, none⟩ (.int .u8 ((nth D j ^^^ 4 : Nat) : Int)))) := RbDr.mk (B := 0) (hcv9.put hj) hcm (by omega) (isB_set HBD.out hy8) (hBe9.setCell hgg _)
     have hX := HX.out
     clear hcv8 hcv9 hs8 hs9 hg9 hBe8 hBe9 q0 q1
     go_wp2
     go_ret
     exact HF.out
    ·have hLi : ¬ (0 : Int) < (L : Int) := by omega
     have HF : Hid (RbDr w (.returned (.slice (some ⟨g, 0, none⟩) L c)) w8) := RbDr.mk (B := 0) hcv8 hcm (by omega) HBD.out hBe8
     clear hcv8 hs8 hBe8
     go_wp2
     go_ret
     exact HF.out
   ·have e0 : (r8 == 0) = false := beq_eq_false_iff_ne.2 h0
    by_cases h1 : r8 = 1
    ·subst h1
     have hL1 : (1 : Int) ≤ (L : Int) + 1 := by omega
     go_wp2_with fail
     refine (l1NextW_any w.heap.size w.heap.size _ ((L : Int) + 1) w8 hs8 (by omega) (by omega) (by omega)).mono ?_
     rintro e w9 ⟨q, rfl, q0, q1, hs9, hg9⟩
     obtain ⟨j, rfl⟩ := Int.eq_ofNat_of_zero_le q0
     have hj : j ≤ L := by have := q1 (by omega); omega
     have hcv9 := hcv8.kept hg9 hgw
     have hic : (j : Int) ≤ (c : Int) := by have := hcv9.2.1; omega
     have HF : Hid (RbDr w (.returned (.slice (some ⟨g, 0, none⟩) j c)) w9) := RbDr.cut hcv9 (by omega) hcm (by omega) HBD.out (hBe8.trans (gbelow hg9 hs8.2.1))
     clear hcv8 hs8 hBe8 hs9 hg9 hcv9 q0 q1
     go_wp2
     go_ret
     exact HF.out
    ·have e1 : (r8 == 1) = false := beq_eq_false_iff_ne.2 h1
     have HF : Hid (RbDr w (.returned (.slice (some ⟨g, 0, none⟩) L c)) w8) := RbDr.mk (B := 0) hcv8 hcm (by omega) HBD.out hBe8
     clear hcv8 hs8 hBe8
     go_wp2
     go_ret
     exact HF.out
end Go.Proofs.YtdcgihcjiiemdaaDoor
namespace Go.Proofs.YtdcgihcjiiemdaaDoor
open Go.RowKit
theorem infoOp : (Tryd.prog.info? 27).map (fun i => (i.zero, i.size, i.bytes)) = some (some (.agg #[.int .i64 0, .string ByteArray.empty, .string ByteArray.empty, .slice none 0 0, .int .i64 0, .int .i64 0, .int .i64 0, .slice none 0 0]), 8, 112) := by kernel_rfl
end Go.Proofs.YtdcgihcjiiemdaaDoor
namespace Go.Proofs.YtdcgihcjiiemdaaDoor
open Go.RowKit
set_option linter.unusedVariables false
theorem oc_app (a b : List Oc) : oc (a ++ b) = oc a ++ oc b := by simp [oc]
def OwnO (w : World) (B : Nat) (v : Value) (l : List Oc) : Prop := w.ownsRow B 27 8 v l.length (oc l)
theorem OwnO.nil (w : World) (B : Nat) : OwnO w B (.slice none 0 0) [] := World.ownsRow_nil _ _ _ _
theorem OwnO.form {w : World} {B : Nat} {v : Value} {l : List Oc} (h : OwnO w B v l) : ∃ a cap, v = .slice a l.length cap ∧ l.length ≤ cap ∧ cap ≤ maxLen := by
 rcases h.2 with ⟨h', h0⟩ | ⟨g, cap, cur, h', _, _, h4, h5, _⟩
 ·exact ⟨none, 0, by rw [h', h0], by omega, by decide⟩
 ·exact ⟨_, cap, h', h4, h5⟩
theorem OwnO.below {w w' : World} {B C : Nat} {v : Value} {l : List Oc} (h : OwnO w B v l) (hb : Below C w w') (hC : w.heap.size ≤ C) : OwnO w' B v l := ownO_below h hb hC
theorem OwnO.set {w : World} {B : Nat} {v : Value} {l : List Oc} (h : OwnO w B v l) (p : Addr) (hp : p.block < B) (u : Value) : OwnO (w.setCell p u) B v l := ownsRow_setCell_below h hp u
theorem wpList_appO {w : World} {ops : Array Oper} {rest : List Oper} {o : Oper} {a : Act} {Q : Exit → Act → World → Prop} (hgd : o.guard = none) (s x : Operand)
  (ho : o.op = .call { callee := .builtin .append, args := #[s, x], argTypes := #[38, 38] })
  (B : Nat) (v : Value) (l : List Oc) (hs : a.eval s = v) (hown : OwnO w B v l) (g : Nat) (q : Oc) (hx : a.eval x = .slice (some ⟨g, 0, none⟩) 1 1) (hq : Qo w g q)
  (h1 : q.c0.oneCell' = true ∧ q.c1.oneCell' = true ∧ q.c2.oneCell' = true ∧ q.c3.oneCell' = true ∧ q.c4.oneCell' = true ∧ q.c5.oneCell' = true ∧ q.c6.oneCell' = true ∧ q.c7.oneCell' = true)
  (hsz : l.length + 1 ≤ 1048576) (hB : B ≤ w.heap.size)
  (h : ∀ v' w1, OwnO w1 B v' (l ++ [q]) → w.grownBy w1 v.ownBlock → (v'.ownBlock = v.ownBlock ∨ v'.ownBlock = some w.heap.size) → wpList Tryd.prog ops Q rest (a.put o.dst v') w1) : wpList Tryd.prog ops Q (o :: rest) a w := by
 obtain ⟨i0, hi, hz0, hz1, hz2⟩ := info_parts infoOp
 obtain ⟨q0, q1, q2, q3, q4, q5, q6, q7⟩ := hq
 refine wpList_append_own_at w hgd s x 38 ho B 27 i0 (.agg #[.int .i64 0, .string ByteArray.empty, .string ByteArray.empty, .slice none 0 0, .int .i64 0, .int .i64 0, .int .i64 0, .slice none 0 0]) 8 112 Tryd.underlying38 hi hz0 hz1 hz2 rfl (by decide) v l.length (oc l) hs hown ⟨g, 0, none⟩ 1 1 (oc [q]) hx rfl ?_ ?_ (by unfold maxLen; omega) (by omega) hB ?_
 ·intro j u hj
  rw [Go.WideShapes.add_plain, Nat.zero_add]
  have hjl : j < 8 := by
   rcases Nat.lt_or_ge j 8 with hlt | hge
   ·exact hlt
   ·rw [List.getElem?_eq_none (by show 8 ≤ j; exact hge)] at hj; cases hj
  obtain rfl | rfl | rfl | rfl | rfl | rfl | rfl | rfl : j = 0 ∨ j = 1 ∨ j = 2 ∨ j = 3 ∨ j = 4 ∨ j = 5 ∨ j = 6 ∨ j = 7 := by omega
  ·cases hj; exact q0
  ·cases hj; exact q1
  ·cases hj; exact q2
  ·cases hj; exact q3
  ·cases hj; exact q4
  ·cases hj; exact q5
  ·cases hj; exact q6
  ·cases hj; exact q7
 ·intro u hu
  have hu' : u ∈ [q.c0, q.c1, q.c2, q.c3, q.c4, q.c5, q.c6, q.c7] := hu
  simp only [List.mem_cons, List.not_mem_nil, or_false] at hu'
  rcases hu' with rfl | rfl | rfl | rfl | rfl | rfl | rfl | rfl
  ·exact h1.1
  ·exact h1.2.1
  ·exact h1.2.2.1
  ·exact h1.2.2.2.1
  ·exact h1.2.2.2.2.1
  ·exact h1.2.2.2.2.2.1
  ·exact h1.2.2.2.2.2.2.1
  ·exact h1.2.2.2.2.2.2.2
 ·intro v' w1 hown' hgr _ hat
  refine h v' w1 ?_ hgr hat
  unfold OwnO
  rw [oc_app, List.length_append]
  exact hown'
def Kc (g : Nat) (w w' : World) : Prop := g < w'.heap.size ∧ ∀ i, w'.cell? ⟨g, i, none⟩ = w.cell? ⟨g, i, none⟩ ∧ w'.frozen? ⟨g, i, none⟩ = w.frozen? ⟨g, i, none⟩
theorem Kc.of_block {g : Nat} {w w' : World} (h : w'.heap[g]? = w.heap[g]?) (hg : g < w.heap.size) (hs : w.heap.size ≤ w'.heap.size) : Kc g w w' := ⟨by omega, fun i => ⟨World.cell?_of_block h, World.frozen?_of_block h⟩⟩
theorem Kc.below {g C : Nat} {w w' : World} (hb : Below C w w') (hC : w.heap.size ≤ C) (hg : g < w.heap.size) : Kc g w w' := .of_block (hb.block g (by omega)) hg hb.size
theorem Kc.grown {g : Nat} {w w' : World} {r : Option Nat} (hb : w.grownBy w' r) (hg : g < w.heap.size) (hr : some g ≠ r) : Kc g w w' := .of_block (hb.block g hg hr) hg hb.size
theorem Kc.set {g k j : Nat} {w : World} (v : Value) (hg : g < w.heap.size) (hk : k ≠ g) : Kc g w (w.setCell ⟨k, j, none⟩ v) := ⟨by simpa using hg, fun i => ⟨World.cell?_setCell_other _ _ _ _ (fun e => by cases e; exact hk rfl), by simp⟩⟩
theorem Kc.trans {g : Nat} {w w' w'' : World} (h : Kc g w w') (h' : Kc g w' w'') : Kc g w w'' := ⟨h'.1, fun i => ⟨(h'.2 i).1.trans (h.2 i).1, (h'.2 i).2.trans (h.2 i).2⟩⟩
def InS (lo hi : Nat) (s : SlQ) : Prop := s.2.1 = 0 ∨ ∃ g, s.1 = some ⟨g, 0, none⟩ ∧ lo ≤ g ∧ g < hi
theorem InS.of_wr {lo : Nat} {w : World} {s : SlQ} (h : WrQ lo w s) : InS lo w.heap.size s := by
 rcases h with h | ⟨g, h1, h2, h3, -⟩
 ·exact .inl h
 ·exact .inr ⟨g, h1, h2, h3⟩
structure OpIn (w : World) (own : Option Nat) (lo hi : Nat) (p : SlO) (o : OpR) : Prop where
 op : IsOp lo w p o
 in1 : InS lo hi p.1
 in2 : InS lo hi p.2
 le : lo ≤ hi
 hi_le : hi ≤ w.heap.size
 wr1 : WrQ lo w p.1
 wr2 : WrQ lo w p.2
 sp : ∀ x y, p.1.1 = some x → p.2.1 = some y → x.block ≠ y.block
 off : ∀ g, own = some g → g < lo ∨ hi ≤ g
theorem WrQ.kc {lo hi : Nat} {w w' : World} {s : SlQ} (h : WrQ lo w s) (hi' : InS lo hi s) (hK : ∀ g, lo ≤ g → g < hi → Kc g w w') : WrQ lo w' s := by
 rcases h with h | ⟨g, h1, h2, h3, h4⟩
 ·exact .inl h
 ·rcases hi' with h | ⟨g', e, e1, e2⟩
  ·exact .inl h
  ·rw [h1] at e; cases e
   have k := hK g h2 e2
   exact .inr ⟨g, h1, h2, k.1, fun i hi => ⟨by rw [(k.2 i).1]; exact (h4 i hi).1, (k.2 i).2.trans (h4 i hi).2⟩⟩
theorem IsOp.kc {lo hi : Nat} {w w' : World} {p : SlO} {o : OpR} (h : IsOp lo w p o) (h1 : InS lo hi p.1) (h2 : InS lo hi p.2) (hK : ∀ g, lo ≤ g → g < hi → Kc g w w') : IsOp lo w' p o := by
 obtain ⟨⟨a1, a2, a3, a4, a5⟩, ⟨b1, b2, b3, b4, b5, b6⟩⟩ := h
 refine ⟨⟨a1, a2, a3, ?_, a5⟩, ⟨b1, b2, b3, b4, ?_, b6⟩⟩
 ·rcases a4 with a4 | ⟨b, off, e, hlt, hc⟩
  ·exact .inl a4
  ·rcases h1 with h1 | ⟨g, e', e1, e2⟩
   ·exact .inl (List.length_eq_zero_iff.1 (by omega))
   ·rw [e'] at e; cases e
    have k := hK b e1 e2
    exact .inr ⟨b, 0, e', k.1, fun i hi => ((k.2 _).1).trans (hc i hi)⟩
 ·rcases b5 with b5 | ⟨b, off, e, hlt, hc⟩
  ·exact .inl b5
  ·rcases h2 with h2 | ⟨g, e', e1, e2⟩
   ·exact .inl (List.length_eq_zero_iff.1 (by omega))
   ·rw [e'] at e; cases e
    have k := hK b e1 e2
    exact .inr ⟨b, 0, e', k.1, fun i hi => ((k.2 _).1).trans (hc i hi)⟩
theorem OpIn.kept {w w' : World} {own own' : Option Nat} {lo hi : Nat} {p : SlO} {o : OpR} (h : OpIn w own lo hi p o) (hs : w.heap.size ≤ w'.heap.size) (hK : ∀ g, lo ≤ g → g < hi → some g ≠ own → Kc g w w') (ho : ∀ g, own' = some g → own = some g ∨ hi ≤ g) : OpIn w' own' lo hi p o := by
 have hK' : ∀ g, lo ≤ g → g < hi → Kc g w w' := fun g h1 h2 => hK g h1 h2 (fun e => by have := h.off g e.symm; omega)
 exact ⟨h.op.kc h.in1 h.in2 hK', h.in1, h.in2, h.le, Nat.le_trans h.hi_le hs, h.wr1.kc h.in1 hK', h.wr2.kc h.in2 hK', h.sp, fun g e => (ho g e).elim (h.off g) .inr⟩
def OpsIn (w : World) (own : Option Nat) : Nat → Nat → List SlO → List OpR → Prop
 | lo, hi, [], [] => lo ≤ hi ∧ hi ≤ w.heap.size
 | lo, hi, p :: ps, o :: os => ∃ k m, lo ≤ k ∧ OpIn w own k m p o ∧ OpsIn w own m hi ps os
 | _, _, _, _ => False
theorem OpsIn.le {w : World} {own : Option Nat} : ∀ {ps : List SlO} {os : List OpR} {lo hi : Nat}, OpsIn w own lo hi ps os → lo ≤ hi ∧ hi ≤ w.heap.size
 | [], [], _, _, h => h
 | _ :: _, _ :: _, _, _, ⟨k, m, h0, h1, h2⟩ => ⟨Nat.le_trans h0 (Nat.le_trans h1.le (OpsIn.le h2).1), (OpsIn.le h2).2⟩
 | [], _ :: _, _, _, h => h.elim
 | _ :: _, [], _, _, h => h.elim
theorem OpsIn.kept {w w' : World} {own own' : Option Nat} (hs : w.heap.size ≤ w'.heap.size) : ∀ {ps : List SlO} {os : List OpR} {lo hi : Nat}, OpsIn w own lo hi ps os → (∀ g, lo ≤ g → g < hi → some g ≠ own → Kc g w w') → (∀ g, own' = some g → own = some g ∨ hi ≤ g) → OpsIn w' own' lo hi ps os
 | [], [], _, _, h, _, _ => ⟨h.1, Nat.le_trans h.2 hs⟩
 | _ :: _, _ :: _, _, _, ⟨k, m, h0, h1, h2⟩, hK, ho => ⟨k, m, h0, h1.kept hs (fun g a b c => hK g (Nat.le_trans h0 a) (Nat.lt_of_lt_of_le b (OpsIn.le h2).1) c) (fun g e => (ho g e).imp id (fun h => Nat.le_trans (OpsIn.le h2).1 h)), OpsIn.kept hs h2 (fun g a b c => hK g (Nat.le_trans h0 (Nat.le_trans h1.le a)) b c) ho⟩
 | [], _ :: _, _, _, h, _, _ => h.elim
 | _ :: _, [], _, _, h, _, _ => h.elim
theorem OpsIn.snoc {w : World} {own : Option Nat} {m k hi : Nat} {p : SlO} {o : OpR} (hmk : m ≤ k) (hp : OpIn w own k hi p o) : ∀ {ps : List SlO} {os : List OpR} {lo : Nat}, OpsIn w own lo m ps os → OpsIn w own lo hi (ps ++ [p]) (os ++ [o])
 | [], [], _, h => ⟨k, hi, Nat.le_trans h.1 hmk, hp, Nat.le_refl _, hp.hi_le⟩
 | _ :: _, _ :: _, _, ⟨k', m', h0, h1, h2⟩ => ⟨k', m', h0, h1, OpsIn.snoc hmk hp h2⟩
 | [], _ :: _, _, h => h.elim
 | _ :: _, [], _, h => h.elim
end Go.Proofs.YtdcgihcjiiemdaaDoor
