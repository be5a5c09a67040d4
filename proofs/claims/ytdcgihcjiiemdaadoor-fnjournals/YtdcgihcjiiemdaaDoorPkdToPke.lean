/- PackOp: the program's function; the condition: the table of what each kind has lies in its variable · Words for the model's packing: a copy into a slice that grew, a text turned into bytes at a step of a drawn region, ways that meet; two bytes of a number, the sum of some bytes: the model's; no conditions beyond those that each fact names. -/
import Derived.Test.YtdcgihcjiiemdaaDoorPkc
import Derived.Laws.IdiomCopy
import Derived.Deep.RegionHeld3
namespace Go.Proofs.YtdcgihcjiiemdaaDoor
open Go.RowKit
set_option linter.unusedVariables false
def GrJ (w : World) (B : Nat) (v : Value) (l : List Nat) : Prop := (v = .slice none 0 0 ∧ l = []) ∨ Gr w B v l
theorem GrJ.below {w w' : World} {B C : Nat} {v : Value} {l : List Nat} (h : GrJ w B v l) (hb : Below C w w') (hC : w.heap.size ≤ C) : GrJ w' B v l := h.imp id (fun h => h.below hb hC)
theorem Gr.setJ {w : World} {B R j : Nat} {v x : Value} {l : List Nat} (h : Gr w B v l) (hR : R < B) : Gr (w.setCell ⟨R, j, none⟩ x) B v l := by
 obtain ⟨g, cap, e, hB, hm, hl, hn, hg, hc, hf⟩ := h
 have hcell : ∀ i, (w.setCell ⟨R, j, none⟩ x).cell? ⟨g, i, none⟩ = w.cell? ⟨g, i, none⟩ := fun i => World.cell?_setCell_other _ _ _ _ (fun h => by injection h; omega)
 refine ⟨g, cap, e, hB, hm, hl, hn, by simpa using hg, fun i hi => (hcell i).trans (hc i hi), fun i hi => ⟨by rw [hcell]; exact (hf i hi).1, ?_⟩⟩
 rw [World.frozen?_setCell]
 exact (hf i hi).2
def pkV (o : OpR) : Int × List Nat := if ofV o = 0 then (0, pkO o) else (ofV o, [])
def PkEnd (r : Int × List Nat) (w : World) (e : Ending) (w' : World) : Prop := ∃ v, e = .returned (.agg #[.int .i64 r.1, v]) ∧ GrJ w' w.heap.size v r.2 ∧ Below w.heap.size w w'
theorem pk_end {w w1 : World} {B R : Nat} {c : Int} {l : List Nat} {v : Value} (hR : w.heap.size ≤ R) (hB : R < B) (hb : Below w.heap.size w w1) (h : GrJ w1 B v l) : GrJ ((w1.setCell ⟨R, 0, none⟩ (.int .i64 c)).setCell ⟨R, 1, none⟩ v) w.heap.size v l ∧ Below w.heap.size w ((w1.setCell ⟨R, 0, none⟩ (.int .i64 c)).setCell ⟨R, 1, none⟩ v) :=
 ⟨h.imp id (fun h => ((h.setJ (by omega)).setJ (by omega)).low (by omega)), (hb.setCell hR _).setCell hR _⟩
theorem inB_isB {o : OpR} (h : OkJ o) (hb : IsB o.b) : IsB (hdB o) := by
 have h2 : ∀ n : Nat, IsB (twoB n) := fun n y hy => by
  simp only [twoB, List.mem_cons, List.mem_nil_iff, or_false] at hy
  omega
 have hx : ∀ s : ByteArray, IsB (txB s) := fun s y hy => by
  simp only [txB, List.mem_map] at hy
  obtain ⟨z, -, rfl⟩ := hy
  exact z.toNat_lt
 have hu : IsB (uiB o.u) := fun y hy => by
  simp only [uiB, List.mem_flatMap] at hy
  obtain ⟨z, -, hy⟩ := hy
  exact h2 _ y hy
 have := h.k; have := h.x; have := h.t; have := h.u; have := h.m; have := h.f
 intro y hy
 simp only [hdB, inB, enB, List.mem_append, List.mem_cons] at hy
 rcases hy with hy | hy | hy | hy | hy | hy | hy | hy | hy | hy | hy | hy | hy
 ·exact h2 _ y hy
 ·omega
 ·omega
 ·exact hx _ y hy
 ·omega
 ·exact hx _ y hy
 ·omega
 ·exact hu y hy
 ·omega
 ·omega
 ·exact h2 _ y hy
 ·exact h2 _ y hy
 ·exact hb y hy
set_option maxHeartbeats 800000 in
set_option maxRecDepth 100000 in
theorem packOp_any (o : OpR) (p : SlO) {lo : Nat} (w : World) (hs : IsOp lo w p o) (hT : TabH8 w) (hx : o.x.size ≤ 1048576) (ht : o.t.size ≤ 1048576) :
  Calls Tryd.prog 10 #[opX o p] w fun e w' => PkEnd (pkV o) w e w' := by
 have HBD : Hid (IsB o.b) := hs.2.2.2.2.1
 have HV : Hid (pkV o = if ofV o = 0 then (0, pkO o) else (ofV o, [])) := rfl
 obtain ⟨W0, hW0⟩ : ∃ W0, w.alloc (.cells #[.int .i64 o.k, .string o.x, .string o.t, slW p.1, .int .i64 o.m, .int .i64 o.f, .int .i64 o.d, slW p.2] 27) = W0 := ⟨_, rfl⟩
 have hs0 : W0.heap.size = w.heap.size + 1 := by rw [← hW0]; simp
 have hb0 : Below w.heap.size w W0 := by rw [← hW0]; exact (Below.refl _ _).alloc (Nat.le_refl _) _
 have hQ0 : Qo W0 w.heap.size (opQ o p) := by rw [← hW0]; exact Qo.new _ _ _ _ _ _ _ _ _ _
 obtain ⟨W, hW⟩ : ∃ W, W0.alloc (.cells #[.int .i64 0, .slice none 0 0] 33) = W := ⟨_, rfl⟩
 have hsW : W.heap.size = w.heap.size + 1 + 1 := by rw [← hW]; simp [hs0]
 have hb1 : Below w.heap.size w W := by rw [← hW]; exact hb0.alloc (by omega) _
 have hbW : Below W0.heap.size W0 W := by rw [← hW]; exact (Below.refl _ _).alloc (Nat.le_refl _) _
 have HRB : Hid (∀ wr, Below (w.heap.size + 1 + 1) W wr → _) := fun wr hb => res_block hW (by rw [hs0]; exact hb)
 have hQ1 : Qo W w.heap.size (opQ o p) := hQ0.below hbW (by omega)
 have HQ : Hid (∀ wr, Below (w.heap.size + 1 + 1) W wr → Qo wr w.heap.size (opQ o p) ∧ IsOp lo wr p o) := fun wr hb => ⟨hQ1.below hb (by omega), (hs.below hb1).below (by rw [hsW]; exact hb)⟩
 have HF := opFault_any o p W (hs.below hb1) (hT.below hb1) hx ht
 rw [hs0] at HRB
 obtain ⟨⟨c0, c1, c2, c3, c4, c5, c6, c7⟩, -⟩ := HQ.out _ (Below.refl _ _)
 dsimp only at c0 c1 c2 c3 c4 c5 c6 c7
 have HOK : Hid (ofV o = 0 → OkJ o) := fun h => okJ h
 generalize pkV o = r at *
 generalize ofV o = c at *
 clear hs hT hb0 hbW hQ0 hQ1
 go_enter Tryd.func10, Tryd.ntmps10
 go_wp2_with fail
 refine HF.mono ?_
 rintro e w1 ⟨rfl, h1⟩
 rw [hsW] at h1
 have hz1 : w.heap.size + 1 + 1 ≤ w1.heap.size := by have := h1.size; omega
 clear HF c0 c1 c2 c3 c4 c5 c6 c7
 by_cases hc : c = 0
 ·subst hc
  have HR : Hid (r = (0, pkO o)) := HV.out.trans (if_pos rfl)
  have hok : OkJ o := HOK.out rfl
  obtain ⟨⟨c0, c1, c2, c3, c4, c5, c6, c7⟩, hs1⟩ := HQ.out _ h1
  dsimp only at c0 c1 c2 c3 c4 c5 c6 c7
  clear HV HOK
  go_wp2_with fail
  refine (innerBytes_any o p w1 hs1 hok).mono ?_
  rintro e w2 ⟨v2, rfl, hg2, h2⟩
  have hB2 := h1.trans (h2.mono hz1)
  clear c0 c1 c2 c3 c4 c5 c6 c7 hs1
  have hil := inB_len o
  have := hok.x; have := hok.t; have := hok.u; have := hok.b
  obtain ⟨g2, cp2, rfl, hg2B, hcm2, hcv2⟩ := hg2
  obtain ⟨n, hn⟩ : ∃ n, (inB o).length = n := ⟨_, rfl⟩
  have hn4 : n ≤ 638 := by omega
  have HN : Hid ((inB o).length = n) := hn
  rw [hn] at hcv2 ⊢
  obtain ⟨N, hN⟩ : ∃ N, N = n + 4 := ⟨_, rfl⟩
  have hN6 : N < 65536 := by omega
  have HNN : Hid (N = (inB o).length + 4) := by show _ = _; rw [HN.out]; exact hN
  have HP := pairOf_any N w2 hN6
  rw [show (N : Int) = (n : Int) + 4 by omega] at HP
  clear hn hil hN
  go_wp2_with fail
  refine HP.mono ?_
  rintro e w3 ⟨rfl, h3⟩
  have hB3 := hB2.trans (h3.mono (by have := hB2.size; omega))
  have hz3 : w.heap.size + 1 + 1 ≤ w3.heap.size := by have := hB3.size; omega
  have hcv3 : Cv w3 g2 n cp2 (inB o) := hcv2.below h3 hcv2.2.2.1
  have e1 : (N : Int) / 256 = ((N / 256 % 256 : Nat) : Int) := by omega
  have e2 : (N : Int) % 256 = ((N % 256 : Nat) : Int) := by omega
  obtain ⟨W4, hW4⟩ : ∃ W4, w3.alloc (.cells #[.int .u8 ((N : Int) / 256), .int .u8 ((N : Int) % 256)] 55) = W4 := ⟨_, rfl⟩
  have hs4 : W4.heap.size = w3.heap.size + 1 := by rw [← hW4]; simp
  have h4 : Below w3.heap.size w3 W4 := by rw [← hW4]; exact (Below.refl _ _).alloc (Nat.le_refl _) _
  have hr4 : Rd W4 (some ⟨w3.heap.size, 0, none⟩) (twoB N) := by
   rw [← hW4]
   exact .inr ⟨w3.heap.size, 0, rfl, by simp, fun i hi => by
    have hi2 : i < 2 := hi
    obtain rfl | rfl : i = 0 ∨ i = 1 := by omega
    ·simp [nth, twoB]; omega
    ·simp [nth, twoB]⟩
  obtain ⟨W5, hW5⟩ : ∃ W5, W4.alloc (.cells #[.slice (some ⟨w3.heap.size, 0, none⟩) 2 2, .slice (some ⟨g2, 0, none⟩) n cp2] 22) = W5 := ⟨_, rfl⟩
  have h5 : Below W4.heap.size W4 W5 := by rw [← hW5]; exact (Below.refl _ _).alloc (Nat.le_refl _) _
  have hs5 : W5.heap.size = w3.heap.size + 1 + 1 := by rw [← hW5]; simp [hs4]
  have k0 : W5.cell? ⟨w3.heap.size + 1, 0, none⟩ = some (.slice (some ⟨w3.heap.size, 0, none⟩) 2 2) := by rw [← hW5, ← hs4]; simp
  have k1 : W5.cell? ⟨w3.heap.size + 1, 1, none⟩ = some (.slice (some ⟨g2, 0, none⟩) n cp2) := by rw [← hW5, ← hs4]; simp
  have h45 : Below w3.heap.size w3 W5 := h4.trans (h5.mono (by omega))
  have hB5 := hB3.trans (h45.mono hz3)
  have HC := concat2_any (w3.heap.size + 1) _ _ 2 2 n cp2 (twoB N) (inB o) W5 k0 k1 rfl HN.out (hr4.below h5) (hcv3.rd.below h45) (fun h => by cases h) (fun h => by cases h) (by omega) (by omega) (by omega)
  have HHD : Hid (twoB N ++ inB o = hdB o) := by show _ = _; rw [HNN.out]; rfl
  rw [HHD.out] at HC
  clear HP h2 h3 hcv2 hcv3 e1 e2 h4 hr4 h5 k0 k1 h45 hB3 hg2B
  go_wp2_with fail
  refine HC.mono ?_
  rintro e w6 ⟨v6, rfl, hg6, h6⟩
  have hB6 := hB5.trans (h6.mono (by omega))
  have hhl : (hdB o).length ≤ 650 := by rw [hdB_len]; omega
  have HBH : Hid (IsB (hdB o)) := inB_isB hok HBD.out
  have HPK : Hid (hdB o ++ twoB (smJ 1 (hdB o)) = pkO o) := rfl
  generalize hdB o = hd at *
  obtain ⟨m, hm⟩ : ∃ m, smJ 1 hd = m := ⟨_, rfl⟩
  have hm6 : m < 65536 := by rw [← hm]; exact smJ_lt _ _ (by omega)
  rw [hm] at HPK
  obtain ⟨g6, cp6, rfl, -, -, hcv6⟩ := id hg6
  have HS := sumOf_any (some ⟨g6, 0, none⟩) hd.length cp6 hd w6 rfl hcv6.rd HBH.out (by omega)
  rw [hm] at HS
  clear HC hm
  go_wp2_with fail
  refine HS.mono ?_
  rintro e w7 ⟨rfl, h7⟩
  have hB7 := hB6.trans (h7.mono (by have := hB6.size; omega))
  have hg7 := hg6.below h7 (Nat.le_refl _)
  have hz7 : W5.heap.size ≤ w7.heap.size := by have := h6.size; have := h7.size; omega
  have e1 : (m : Int) / 256 = ((m / 256 % 256 : Nat) : Int) := by omega
  have e2 : (m : Int) % 256 = ((m % 256 : Nat) : Int) := by omega
  have HT : Hid (Go.Src Tryd.prog 1 22 (.slice (some ⟨w7.heap.size, 0, none⟩) 2 2) 2 (bc (twoB m)) (w7.alloc (.cells #[.int .u8 ((m : Int) / 256), .int .u8 ((m : Int) % 256)] 55))) := src_two _ _ _ e1 e2 2
  have l8 : (hd ++ twoB m).length = hd.length + 2 := by rw [List.length_append]; rfl
  clear HS e1 e2 h6 h7 hcv6 hg6
  go_wp2_with (at_builtin; refine wpList_app_grx rfl _ _ 22 rfl W5.heap.size _ hd (by rfl) (hg7.alloc _) _ _ (twoB m) (by rfl) HT.out rfl (by omega) (by simp; omega) ?_; intro v8 w8 hg8 h8; obtain ⟨g9, cp9, rfl, -⟩ := id hg8; rw [l8] at hg8 ⊢; have hB8 : Below (w.heap.size + 1 + 1) W w8 := hB7.trans ((((Below.refl _ _).alloc hz7 _).trans h8).mono (by omega)); obtain ⟨a0, a1, y0, y1⟩ := HRB.out w8 hB8; obtain ⟨x0, x1⟩ := res_cells a0 a1 (.int .i64 0) (.slice (some ⟨g9, 0, none⟩) (hd.length + 2) cp9); have HE : Hid (_) := pk_end (c := 0) (R := w.heap.size + 1) (B := W5.heap.size) (by omega) (by omega) (hb1.trans (hB8.mono (by omega))) (.inr hg8))
  refine bodyPost_ret (v := .agg #[.int .i64 0, .slice (some ⟨g9, 0, none⟩) (hd.length + 2) cp9]) (by simp [results, Tryd.results10, go_sem, x0, x1]) rfl ?_
  rw [HR.out]
  refine ⟨_, rfl, ?_⟩
  rw [HPK.out] at HE
  exact HE.out
 ·have HR : Hid (r = (c, [])) := HV.out.trans (if_neg hc)
  obtain ⟨a0, a1, y0, y1⟩ := HRB.out w1 h1
  obtain ⟨x0, x1⟩ := res_cells a0 a1 (.int .i64 c) (.slice none 0 0)
  have HE : Hid (_) := pk_end (c := c) (v := .slice none 0 0) (l := []) (R := w.heap.size + 1) (B := w.heap.size + 1 + 1) (by omega) (by omega) (hb1.trans (h1.mono (by omega))) (.inl ⟨rfl, rfl⟩)
  clear HV HOK
  go_wp2
  refine bodyPost_ret (v := .agg #[.int .i64 c, .slice none 0 0]) (by simp [results, Tryd.results10, go_sem, x0, x1]) rfl ?_
  rw [HR.out]
  exact ⟨_, rfl, HE.out⟩
end Go.Proofs.YtdcgihcjiiemdaaDoor
namespace Go.Proofs.YtdcgihcjiiemdaaDoor
open Go.RowKit
set_option linter.unusedVariables false
theorem Gr.ne {w : World} {B k : Nat} {v : Value} {l : List Nat} (h : Gr w B v l) (hk : w.heap.size ≤ k) : v.ownBlock ≠ some k := by
 obtain ⟨g, cap, rfl, -, -, hc⟩ := h
 have := hc.2.2.1
 intro e
 simp [Value.ownBlock] at e
 omega
theorem wpList_copy_gr {w : World} {ops : Array Oper} {rest : List Oper} {o : Oper} {a : Act} {Q : Exit → Act → World → Prop} (hgd : o.guard = none) (d s : Operand)
  (ho : o.op = .call { callee := .builtin .copy, args := #[d, s], argTypes := #[22, 22] }) (B : Nat) (v : Value) (l new : List Nat) (m c : Nat) (ad : Addr) (hm : new.length = m) (hml : m ≤ l.length)
  (hd : a.eval d = v) (hv : Gr w B v l) (hs : a.eval s = .slice (some ad) m c) (hr : ∀ j, j < m → w.cell? (ad.add j) = some (.int .u8 (nth new j : Int)))
  (h : ∀ w1, Gr w1 B v (new ++ l.drop m) → Below B w w1 → wpList Tryd.prog ops Q rest (a.put o.dst (goInt m)) w1) : wpList Tryd.prog ops Q (o :: rest) a w := by
 refine wpList_plain hgd fun K hK => ?_
 obtain ⟨i, hi, hz, hsize, hby⟩ := info_parts infoB
 obtain ⟨g, cap, rfl, hBg, hcm, hl, hn, hlt, hc, hf⟩ := hv
 have hrun := run_copy_cells (P := Tryd.prog) w 22 22 o.type 5 g 0 l.length cap ad m c (bc new) Tryd.underlying22 (by rw [hi]; simp [hsize]) (by rw [bc_len, hm]; exact (Nat.min_eq_left hml).symm)
  (fun j u hj => by
   have hjl : j < new.length := by
    rcases Nat.lt_or_ge j new.length with h | h
    ·exact h
    ·rw [List.getElem?_eq_none (by rw [bc_len]; exact h)] at hj; cases hj
   rw [bc_get hjl] at hj
   cases hj
   exact hr j (by omega)) (fun j hj => by rw [bc_len] at hj; rw [Nat.zero_add]; exact (hf j (by omega)).1) (fun j hj => by rw [bc_len] at hj; rw [Nat.zero_add]; exact (hf j (by omega)).2) (bc_one new)
 rw [bc_len, hm] at hrun
 unfold Oper.wp
 simp [execOp, ho, resolve, invoke, builtin, hd, hs, hrun, Result.andThen]
 refine hK _ _ (h _ ⟨g, cap, ?_, hBg, hcm, rfl, ?_, ?_, fun j hj => ?_, fun j hj => ⟨?_, ?_⟩⟩ ((below_setCells g _ _ _).mono hBg))
 ·rw [List.length_append, List.length_drop, hm, Nat.add_sub_cancel' hml]
 ·rw [List.length_append, List.length_drop, hm]; omega
 ·exact Nat.lt_of_lt_of_le hlt (below_setCells g _ _ _).size
 ·rw [List.length_append, List.length_drop, hm] at hj
  have hin := World.cell?_setCells_in g (bc new) 0 w (fun j hj => by rw [bc_len] at hj; rw [Nat.zero_add]; exact (hf j (by omega)).1)
  rcases Nat.lt_or_ge j m with h1 | h1
  ·have := hin j (by rw [bc_len]; omega)
   rw [Nat.zero_add] at this
   rw [this, nth_get (by rw [List.length_append, List.length_drop]; omega), List.getElem_append_left (by omega)]
   simp [bc]
  ·rw [World.cell?_setCells_out g (bc new) 0 w ⟨g, j, none⟩ (fun _ _ => .inr (by rw [bc_len]; simp; omega)), hc j (by omega), nth_get (by omega), nth_get (by rw [List.length_append, List.length_drop]; omega), List.getElem_append_right (by omega)]
   simp [hm, show m + (j - m) = j by omega]
 ·exact World.isSome_setCells g (bc new) _ w _ (hf j hj).1
 ·exact (World.frozen?_setCells g _ _ _ _).trans (hf j hj).2
theorem step_conv {w : World} {ops : Array Oper} {o : Oper} {a : Act} {K : Act → World → Prop} {Q : Exit → Act → World → Prop} {E : Prop} (hgd : o.guard = none) (s : Operand)
  (ho : o.op = .convert 9 22 s) (l : List Nat) (hB : IsB l) (n : Nat) (hn : l.length = n) (hs : a.eval s = .string (str l)) (hsz : n ≤ 1000000)
  (h : ∀ cap w1, Rd w1 (some ⟨w.heap.size, 0, none⟩) l → Below w.heap.size w w1 → w.heap.size < w1.heap.size → K (a.put o.dst (.slice (some ⟨w.heap.size, 0, none⟩) n cap)) w1) : if Region.wanted o (yielded ops a.tmps) = true then Oper.wp Tryd.prog o a w K Q else E := by
 have hw : Region.wanted o (yielded ops a.tmps) = true := by simp [Region.wanted, hgd]
 rw [if_pos hw]
 have hcvt := run_bytes_of_string (P := Tryd.prog) w 9 22 5 (str l) Tryd.underlying9 Tryd.underlying22 Tryd.underlying5
 rw [str_size, hn] at hcvt
 have hcp := grownCap_ge w n 0 5
 have hcv := (Cv.conv w.drew l hB (grownCap w n 0 5) (by rw [hn]; exact hcp)).rd
 unfold Oper.wp
 simp [execOp, ho, hs, hcvt, Result.andThen]
 exact h _ _ hcv (((Below.refl _ _).drew).alloc (Nat.le_refl _) _) (by simp)
def putJ (a : Act) : List Nat → List Value → Act
 | s :: ss, v :: vs => putJ (a.put (some s) v) ss vs
 | _, _ => a
theorem wp_meetJ {P : Program} {c : Code} {Q : Exit → Act → World → Prop} {a : Act} {w : World} (ss : List Nat) (R : List Value → World → Prop)
  (h1 : c.wp P (fun ex a' w' => ex = .normal ∧ R (ss.map fun s => a'.tmps.getD s undef) w' ∧ a' = putJ a ss (ss.map fun s => a'.tmps.getD s undef)) a w)
  (h2 : ∀ (vs : List Value) (w' : World), vs.length = ss.length → R vs w' → Q .normal (putJ a ss vs) w') : c.wp P Q a w :=
 Code.wp_mono (fun e a' w' ⟨he, hR, ha⟩ => by subst he; have h := h2 _ w' (by simp) hR; rw [← ha] at h; exact h) h1
set_option maxHeartbeats 800000 in
set_option maxRecDepth 100000 in
theorem l9Two_any (n : Nat) (w : World) (hn : n < 65536) : Calls Tryd.prog 44 #[.int .i64 (n : Int)] w fun e w' => e = .returned (.slice (some ⟨w.heap.size, 0, none⟩) 2 2) ∧ Rd w' (some ⟨w.heap.size, 0, none⟩) (twoB n) ∧ w.heap.size < w'.heap.size ∧ Below w.heap.size w w' := by
 have hb : Below w.heap.size w (w.alloc (.cells #[.int .u8 ((n : Int) / 256), .int .u8 ((n : Int) % 256)] 5)) := (Below.refl _ _).alloc (Nat.le_refl _) _
 have hr : Rd (w.alloc (.cells #[.int .u8 ((n : Int) / 256), .int .u8 ((n : Int) % 256)] 5)) (some ⟨w.heap.size, 0, none⟩) (twoB n) :=
  .inr ⟨w.heap.size, 0, rfl, by simp, fun i hi => by
    have hi2 : i < 2 := hi
    obtain rfl | rfl : i = 0 ∨ i = 1 := by omega
    ·simp [nth, twoB]; omega
    ·simp [nth, twoB]⟩
 go_enter Tryd.func44, Tryd.ntmps44
 go_wp2
 go_ret
 exact ⟨rfl, hr, by simp, hb⟩
set_option maxHeartbeats 1600000 in
set_option maxRecDepth 100000 in
theorem l9Sum_any (a : Option Addr) (n cap : Nat) (l : List Nat) (w : World) (hl : l.length = n) (hr : Rd w a l) (hB : IsB l) (hn : n ≤ 1000000) :
  Calls Tryd.prog 45 #[.slice a n cap] w fun e w' => e = .returned (.int .i64 ((smJ 1 l : Nat) : Int)) ∧ w = w' := by
 have HL : Hid (l.length = n) := hl
 clear hl
 go_enter Tryd.func45, Tryd.ntmps45
 go_wp2
 go_loop [3, 4] (fun q i => ∃ (j s : Nat), j ≤ n ∧ i = .int .i64 j ∧ q = .int .i64 (s : Int) ∧ s = smJ 1 (l.take j) ∧ s < 65536) (fun _ i => n - (intOf i).toNat)
 case atStart => exact ⟨0, 1, Nat.zero_le _, rfl, rfl, rfl, by omega⟩
 case round =>
  obtain ⟨j, s, hj, rfl, rfl, hs, hs1⟩ := hrel
  have HS : Hid (s = smJ 1 (l.take j)) := hs
  clear hs
  by_cases hjn : j < n
  ·have hji : (j : Int) < (n : Int) := by omega
   obtain ⟨b, off, ea, -, hc⟩ := hr.at_ (by rw [HL.out]; omega)
   subst ea
   have hcj := hc j (by rw [HL.out]; omega)
   have hby := nth_lt hB j
   have HS2 : Hid ((s * 31 + nth l j) % 65521 = smJ 1 (l.take (j + 1))) := by show _ = _; rw [smJ_snoc 1 l j (by rw [HL.out]; omega), ← HS.out]
   clear hc
   generalize nth l j = y at *
   obtain ⟨m, hm⟩ : ∃ m, m = (s * 31 + y) % 65521 := ⟨_, rfl⟩
   have hm1 : m < 65536 := by omega
   have hme : ((s : Int) * 31 + (y : Int)) % 65521 = (m : Int) := by rw [hm]; omega
   rw [← hm] at HS2
   clear hm
   go_wp2
   go_round
   case rel => exact ⟨j + 1, m, by omega, by go_num, by rw [hme], HS2.out, hm1⟩
   case measure => simp [intOf]; omega
  ·have hjj : j = n := by omega
   have hji : ¬ (j : Int) < (n : Int) := by omega
   have HS2 : Hid (s = smJ 1 l) := by show _ = _; rw [HS.out, hjj, ← HL.out, List.take_length]
   clear HS
   go_wp2
   go_ret
   exact ⟨by rw [← HS2.out]; rfl, rfl⟩
end Go.Proofs.YtdcgihcjiiemdaaDoor
