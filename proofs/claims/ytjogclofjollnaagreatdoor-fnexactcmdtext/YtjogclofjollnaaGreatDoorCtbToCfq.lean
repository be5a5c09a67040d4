/- The text of a command, the model's; no conditions beyond those that each fact names · Words of a command, the program's: digits, a path, an order; no conditions beyond those that each fact names · What is told of a command and may not be: a closed fact on bits. -/
import Derived.Test.YtjogclofjollnaaGreatDoorCfmToCta
import Derived.Test.YtjogclofjollnaaGreatDoorTkwToIto
import Derived.Laws.AppendOwnNone
import Derived.Test.YtjogclofjollnaaGreatDoorCmuToCfp
namespace Go.Proofs.YtjogclofjollnaaGreatDoor
open Go.RowKit
set_option linter.unusedVariables false
theorem tmJ_len {l : List TmR} (h : tmV l = 0) : (tmJ l).length ≤ 10000000 := by
 have h0 : (trV l (fun _ => ((none, 0, 0), (none, 0, 0)))).2 = 0 := by rw [trV_tm]; exact h
 obtain ⟨hn, hG, -⟩ := trV_tr h0
 have := txT_lt hG (f := l.length) (i := l.length - 1) hn.2 (by omega)
 unfold tmJ
 omega
theorem tlJ_big {ws : List (List Nat)} (h : ∀ x ∈ ws, x.length ≤ 10000000) (hl : ws.length ≤ 4) : (tlJ 32 ws).length ≤ 40000010 := by
 match ws, hl with
 | [], _ => decide
 | [a], _ =>
  have h1 := h a (by simp)
  simp only [tlJ_cons, tlJ_nil, List.length_append, List.length_cons, List.length_nil]; omega
 | [a, b], _ =>
  have h1 := h a (by simp); have h2 := h b (by simp)
  simp only [tlJ_cons, tlJ_nil, List.length_append, List.length_cons, List.length_nil]; omega
 | [a, b, c], _ =>
  have h1 := h a (by simp); have h2 := h b (by simp); have h3 := h c (by simp)
  simp only [tlJ_cons, tlJ_nil, List.length_append, List.length_cons, List.length_nil]; omega
 | [a, b, c, d], _ =>
  have h1 := h a (by simp); have h2 := h b (by simp); have h3 := h c (by simp); have h4 := h d (by simp)
  simp only [tlJ_cons, tlJ_nil, List.length_append, List.length_cons, List.length_nil]; omega
theorem all2 {p : List Nat → Prop} {a b : List Nat} (h1 : p a) (h2 : p b) : ∀ x ∈ [a, b], p x := fun x hx => by
 simp only [List.mem_cons, List.not_mem_nil, or_false] at hx
 rcases hx with rfl | rfl
 ·exact h1
 ·exact h2
theorem all1 {p : List Nat → Prop} {a : List Nat} (h1 : p a) : ∀ x ∈ [a], p x := fun x hx => by
 rw [List.mem_singleton] at hx
 subst hx
 exact h1
theorem all3 {p : List Nat → Prop} {a b c : List Nat} (h1 : p a) (h2 : p b) (h3 : p c) : ∀ x ∈ [a, b, c], p x := fun x hx => by
 rcases List.mem_cons.1 hx with rfl | hx
 ·exact h1
 ·exact all2 h2 h3 x hx
theorem ptJ_len {l : List Int} (h : l.length ≤ 3) : (ptJ l).length ≤ 10000000 := by
 unfold ptJ
 split
 ·decide
 ·have := jn4_len 46 (l.map d4J) (fun x hx => by obtain ⟨z, _, rfl⟩ := List.mem_map.1 hx; exact d4J_len z)
  rw [List.length_map] at this
  omega
theorem wcJ_len {o : CmR} (h0 : OkT o) : (∀ x ∈ wcJ o, x.length ≤ 10000000) ∧ (wcJ o).length ≤ 4 := by
 obtain ⟨ht, ⟨hk1, hk14⟩, hn, hy, hb, hu⟩ := h0
 obtain ⟨ot, ok, on, oy, om, of0, od, ob, oh, op, oe, or, ou, oc⟩ := o
 dsimp only at *
 have hol : nmK ok = true → (txB on).length ≤ 10000000 := fun h => by have := hn h; rw [txB_sizeJ]; omega
 unfold wcJ
 dsimp only
 split
 ·rename_i h
  exact ⟨all1 (hol (by rcases h with rfl | rfl | rfl <;> decide)), by simp⟩
 split
 ·rename_i h1 h
  subst h
  have hb6 : bt of0 0 15 = true ∧ bt od 0 9999 = true ∧ bt (ob.length : Int) 1 400 = true := by simpa [nbC] using hb
  have hel : (Xf.enc ob).length ≤ 10000000 := by rw [Xf.enc_len]; have := (bt_in hb6.2.2).2; omega
  refine ⟨fun x hx => ?_, by simp⟩
  rcases List.mem_cons.1 hx with rfl | hx
  ·exact hol (by decide)
  ·exact all3 (p := fun x => x.length ≤ 10000000) (d4J_big _) (d4J_big _) hel x hx
 split
 ·rename_i h1 h2 h
  subst h
  exact ⟨all3 (txJ_len (hy (by decide))) (wdJ_big (by decide) _) (d4J_big _), by simp⟩
 split
 ·rename_i h1 h2 h3 h
  exact ⟨all2 (txJ_len (hy (by rcases h with rfl | rfl <;> decide))) (hol (by rcases h with rfl | rfl <;> decide)), by simp⟩
 split
 ·rename_i h1 h2 h3 h4 h
  subst h
  have hb11 : bt oh 1 7 = true ∧ pnV op = true := by simpa [nbC] using hb
  have hpv := hb11.2
  unfold pnV at hpv
  rw [Bool.and_eq_true, decide_eq_true_eq] at hpv
  split
  ·exact ⟨all3 (txJ_len (hy (by decide))) (wdJ_big (by decide) _) (ptJ_len hpv.1), by simp⟩
  ·exact ⟨all2 (txJ_len (hy (by decide))) (wdJ_big (by decide) _), by simp⟩
 split
 ·rename_i h1 h2 h3 h4 h5 h
  subst h
  exact ⟨all1 (tmJ_len (hu (by decide))), by simp⟩
 split
 ·rename_i h1 h2 h3 h4 h5 h6 h
  subst h
  refine ⟨all3 (wdJ_big (by decide) _) ?_ (tmJ_len (hu (by decide))), by simp⟩
  split <;> decide
 split
 ·exact ⟨all1 (wdJ_big (by decide) _), by simp⟩
 ·exact ⟨fun x hx => by simp at hx, by simp⟩
set_option maxHeartbeats 1600000 in
set_option maxRecDepth 100000 in
theorem l14Text_any (o : CmR) (p : SlC) (R : Nat) {lo : Nat} (w : World) (hs : IsCm lo w p o) (hq : Qm w R (cmQ o p)) (h0 : OkT o) :
  Calls Tryz.prog 15 #[.pointer (some ⟨R, 0, none⟩)] w fun e w' => e = .returned (.string (str (ctJ o))) ∧ Below w.heap.size w w' := by
 have hlt := hq.lt
 have HT : Hid (∀ W, Below w.heap.size w W → Calls Tryz.prog 37 #[.pointer (some ⟨R, 0, none⟩)] W fun e w' => e = .returned (.string (str (tlJ 32 (wcJ o)))) ∧ Below W.heap.size W w') := fun W hb => l14Tail_any o p R W (hs.below hb) (hq.below hb hlt) h0
 obtain ⟨hbg, hwl⟩ := wcJ_len h0
 have hx3 := tlJ_big hbg hwl
 have hk := h0.k
 have htl := h0.t
 have HC : ctJ o = txB o.t ++ [32] ++ wdJ cwZ o.k.toNat ++ tlJ 32 (wcJ o) := by simp [ctJ, jnJ, tlJ_cons]
 have hx1 : (txB o.t).length ≤ 10000000 := by rw [txB_sizeJ]; omega
 have hx2 : (wdJ cwZ o.k.toNat).length ≤ 10000000 := wdJ_big (by decide) _
 have hkn : ((o.k.toNat : Nat) : Int) = o.k := by omega
 have HW : Hid (∀ W, Below w.heap.size w W → Calls Tryz.prog 36 #[.int .i64 o.k] W fun e w' => e = .returned (.string (str (wdJ cwZ o.k.toNat))) ∧ Below W.heap.size W w') := fun W _ => by
  have h := l14Word_any o.k.toNat (by omega) W
  rw [hkn] at h
  exact h
 have hot : Value.string o.t = .string (str (txB o.t)) := by rw [str_txJ]
 have HS : Hid (∀ W, Below w.heap.size w W → W.cell? ⟨R, 0, none⟩ = some (.string (str (txB o.t))) ∧ W.cell? ⟨R, 1, none⟩ = some (.int .i64 o.k)) := fun W hb => by
  obtain ⟨c0, c1, -⟩ := hq.below hb hlt
  exact ⟨cell_J c0 hot, c1⟩
 rw [HC]
 generalize tlJ 32 (wcJ o) = x3 at *
 generalize wdJ cwZ o.k.toNat = x2 at *
 generalize txB o.t = x1 at *
 generalize o.k = K at *
 clear hot hkn HC hbg hwl hk htl hs hq h0
 have sx1 : (str x1).size = x1.length := str_size _
 have sx2 : (str x2).size = x2.length := str_size _
 have sx3 : (str x3).size = x3.length := str_size _
 obtain ⟨y1, h1⟩ : ∃ y, str x1 ++ (⟨#[32]⟩ : ByteArray) = y := ⟨_, rfl⟩
 have e1 : y1 = str (x1 ++ [32]) := by rw [← h1]; exact str_plusY (x1) [32]
 have s1 : y1.size ≤ 80000200 := by rw [e1, str_size]; simp only [List.length_append, List.length_cons, List.length_nil]; omega
 have z1 : ¬ 9223372036854775807 < (str x1).size + 1 := by omega
 obtain ⟨y2, h2⟩ : ∃ y, y1 ++ str x2 = y := ⟨_, rfl⟩
 have e2 : y2 = str (x1 ++ [32] ++ x2) := by rw [← h2, e1]; exact str_plusY (x1 ++ [32]) x2
 have s2 : y2.size ≤ 120000300 := by rw [e2, str_size]; simp only [List.length_append, List.length_cons, List.length_nil]; omega
 have z2 : ¬ 9223372036854775807 < y1.size + (str x2).size := by omega
 obtain ⟨y3, h3⟩ : ∃ y, y2 ++ str x3 = y := ⟨_, rfl⟩
 have e3 : y3 = str (x1 ++ [32] ++ x2 ++ x3) := by rw [← h3, e2]; exact str_plusY (x1 ++ [32] ++ x2) x3
 have s3 : y3.size ≤ 160000400 := by rw [e3, str_size]; simp only [List.length_append, List.length_cons, List.length_nil]; omega
 have z3 : ¬ 9223372036854775807 < y2.size + (str x3).size := by omega
 have HY : Hid (y3 = str (x1 ++ [32] ++ x2 ++ x3)) := by show _ = _; rw [e3]
 clear e1 e2 e3 s1 s2 s3 sx1 sx2 sx3
 go_enter Tryz.func15, Tryz.ntmps15
 go_wp2_with fail
 refine wp_region_held_drew (S := fun W => W.cell? ⟨R, 0, none⟩ = some (.string (str x1)) ∧ W.cell? ⟨R, 1, none⟩ = some (.int .i64 K)) (by kernel_rfl) ?hS1 (fun hHeld => ?_)
 case hS1 => exact HS.out _ (Below.refl _ _).drew
 have hb0 : Below w.heap.size w w.drew := (Below.refl _ _).drew
 generalize w.drew = w0 at *
 refine tk (i := 0) (v := ?_) rfl (Or.inl ⟨by rfl, ?hy2⟩) ?ty2
 case hy2 => (intro w5 hSw; obtain ⟨c0, c1⟩ := hSw; go_simp; all_goals with_reducible rfl)
 simp only [Act.put, J1, J2, J4, J5, J6]
 refine tk (i := 1) (v := ?_) rfl (Or.inl ⟨by rfl, ?hy3⟩) ?ty3
 case hy3 => (intro w5 hSw; obtain ⟨c0, c1⟩ := hSw; go_simp; all_goals with_reducible rfl)
 simp only [Act.put, J1, J2, J3, J4, J5, J6]
 refine tk (i := 2) (v := ?_) rfl (Or.inl ⟨by rfl, ?hy4⟩) ?ty4
 case hy4 => (intro w5 hSw; obtain ⟨c0, c1⟩ := hSw; go_simp; all_goals with_reducible rfl)
 simp only [Act.put, J1, J2, J3, J4, J5, J6]
 refine tk (i := 3) (v := ?_) rfl (Or.inl ⟨by rfl, ?hy5⟩) ?ty5
 case hy5 => (intro w5 hSw; obtain ⟨c0, c1⟩ := hSw; go_simp; all_goals with_reducible rfl)
 simp only [Act.put, J1, J2, J3, J4, J5, J6]
 refine tk (i := 4) (v := ?_) rfl (Or.inl ⟨by rfl, ?hy6⟩) ?ty6
 case hy6 => (intro w5 hSw; obtain ⟨c0, c1⟩ := hSw; go_simp; all_goals with_reducible rfl)
 simp only [Act.put, J1, J2, J3, J4, J5, J6]
 refine tk (i := 5) (v := ?_) rfl (Or.inl ⟨by rfl, ?hy7⟩) ?ty7
 case hy7 => (intro w5 hSw; obtain ⟨c0, c1⟩ := hSw; go_simp; all_goals with_reducible rfl)
 simp only [Act.put, J1, J2, J3, J4, J5, J6]
 refine tk (i := 6) (v := ?_) rfl (Or.inl ⟨by rfl, ?hy8⟩) ?ty8
 case hy8 => (intro w5 hSw; obtain ⟨c0, c1⟩ := hSw; go_simp; all_goals with_reducible rfl)
 simp only [Act.put, J1, J2, J3, J4, J5, J6]
 refine tk (i := 7) (v := ?_) rfl (Or.inl ⟨by rfl, ?hy9⟩) ?ty9
 case hy9 => (intro w5 hSw; obtain ⟨c0, c1⟩ := hSw; go_simp; all_goals with_reducible rfl)
 simp only [Act.put, J1, J2, J3, J4, J5, J6]
 refine tk (i := 8) (v := ?_) rfl (Or.inl ⟨by rfl, ?hy10⟩) ?ty10
 case hy10 => (intro w5 hSw; obtain ⟨c0, c1⟩ := hSw; go_simp; all_goals with_reducible rfl)
 simp only [Act.put, J1, J2, J3, J4, J5, J6]
 refine tk (i := 11) (v := ?_) rfl (Or.inl ⟨by rfl, ?hy11⟩) ?ty11
 case hy11 => (intro w5 hSw; obtain ⟨c0, c1⟩ := hSw; go_simp; all_goals with_reducible rfl)
 simp only [Act.put, J1, J2, J3, J4, J5, J6]
 refine wpAnyH_ready (rs := [9]) (by kernel_rfl) (by simp) ?_
 refine AllReadyH.cons rfl (fun K hK => ?_) AllReadyH.nil
 go_simp
 refine (HW.out w0 hb0).mono ?_
 rintro e w1 ⟨rfl, hc1⟩
 have hb1 := hb0.trans (hc1.mono hb0.size)
 refine hK.out _ _ (HS.out _ hb1) (fun hHeld => ?_)
 clear hK K
 refine tk (i := 10) (v := ?_) rfl (Or.inl ⟨by rfl, ?hy12⟩) ?ty12
 case hy12 => (intro w5 hSw; obtain ⟨c0, c1⟩ := hSw; go_simp; all_goals with_reducible rfl)
 simp only [Act.put, J1, J2, J3, J4, J5, J6]
 refine wpAnyH_ready (rs := [12]) (by kernel_rfl) (by simp) ?_
 refine AllReadyH.cons rfl (fun K hK => ?_) AllReadyH.nil
 go_simp
 refine (HT.out w1 hb1).mono ?_
 rintro e w2 ⟨rfl, hc2⟩
 have hb2 := hb1.trans (hc2.mono hb1.size)
 refine hK.out _ _ (HS.out _ hb2) (fun hHeld => ?_)
 clear hK K
 refine tk (i := 13) (v := ?_) rfl (Or.inl ⟨by rfl, ?hy13⟩) ?ty13
 case hy13 => (intro w5 hSw; obtain ⟨c0, c1⟩ := hSw; go_simp; all_goals with_reducible rfl)
 simp only [Act.put, J1, J2, J3, J4, J5, J6]
 refine tk (i := 14) (v := ?_) rfl (Or.inl ⟨by rfl, ?hy14⟩) ?ty14
 case hy14 => (intro w5 hSw; obtain ⟨c0, c1⟩ := hSw; go_simp; all_goals with_reducible rfl)
 simp only [Act.put, J1, J2, J3, J4, J5, J6]
 refine wpAnyH_done (by kernel_rfl) ?_ _
 clear hHeld
 go_wp2
 go_ret
 exact ⟨by rw [← HY.out]; rfl, hb2⟩
set_option maxHeartbeats 1600000 in
set_option maxRecDepth 100000 in
theorem specCmdText_any (o : CmR) (p : SlC) {lo : Nat} (w : World) (hs : IsCm lo w p o) (hf : FtC o) :
  Calls Tryz.prog 5 #[cmX o p] w fun e w' => e = .returned (.agg #[.int .i64 (ctV o).1, .string (str (ctV o).2)]) ∧ Below w.heap.size w w' := by
 have HV : Hid (ctV o = if cfV o = 0 then (0, ctJ o) else (cfV o, [])) := rfl
 obtain ⟨W0, hW0⟩ : ∃ W, w.alloc (.cells #[.string o.t, .int .i64 o.k, .string o.n, slW p.1, .int .i64 o.m, .int .i64 o.f, .int .i64 o.d, slW p.2.1, .int .i64 o.h, slW p.2.2.1, .int .i64 o.e, .bool o.r, slW p.2.2.2, .int .i64 o.c] 35) = W := ⟨_, rfl⟩
 have hb0 : Below w.heap.size w W0 := by rw [← hW0]; exact (Below.refl _ _).alloc (Nat.le_refl _) _
 have hq0 : Qm W0 w.heap.size (cmQ o p) := by rw [← hW0]; exact Qm.new _ _ _ _ _ _ _ _ _ _ _ _ _ _ _ _
 have hz0 : W0.heap.size = w.heap.size + 1 := by rw [← hW0]; simp
 obtain ⟨W1, hW1⟩ : ∃ W, W0.alloc (.cells #[.int .i64 0, .string ⟨#[]⟩] 30) = W := ⟨_, rfl⟩
 have hb1 : Below W0.heap.size W0 W1 := by rw [← hW1]; exact (Below.refl _ _).alloc (Nat.le_refl _) _
 have hb01 : Below w.heap.size w W1 := hb0.trans (hb1.mono hb0.size)
 have hq1 := hq0.below hb1 hq0.lt
 have hs1 := hs.below hb01
 have hz1 : W1.heap.size = w.heap.size + 1 + 1 := by rw [← hW1]; simp [hz0]
 have HF := l14Fault_any o p w.heap.size W1 hs1 hq1 hf
 have HT : Hid (cfV o = 0 → ∀ W, Below W1.heap.size W1 W → Calls Tryz.prog 15 #[.pointer (some ⟨w.heap.size, 0, none⟩)] W fun e w' => e = .returned (.string (str (ctJ o))) ∧ Below W.heap.size W w') := fun h W hb => l14Text_any o p w.heap.size W (hs1.below hb) (hq1.below hb hq1.lt) (okT h)
 generalize ctJ o = x at *
 generalize ctV o = r at *
 generalize cfV o = c at *
 have hR : W1.cell? ⟨w.heap.size + 1, 0, none⟩ = some (.int .i64 0) ∧ W1.cell? ⟨w.heap.size + 1, 1, none⟩ = some (.string ⟨#[]⟩) ∧ W1.frozen? ⟨w.heap.size + 1, 0, none⟩ = false ∧ W1.frozen? ⟨w.heap.size + 1, 1, none⟩ = false := by
  rw [← hW1, ← hz0]; exact ⟨by simp, by simp, by simp, by simp⟩
 have HRc : Hid (∀ W, Below W1.heap.size W1 W → W.cell? ⟨w.heap.size + 1, 0, none⟩ = some (.int .i64 0) ∧ W.cell? ⟨w.heap.size + 1, 1, none⟩ = some (.string ⟨#[]⟩) ∧ W.frozen? ⟨w.heap.size + 1, 0, none⟩ = false ∧ W.frozen? ⟨w.heap.size + 1, 1, none⟩ = false) := fun W hb =>
  ⟨(hb.cell (p := ⟨w.heap.size + 1, 0, none⟩) (by show w.heap.size + 1 < _; omega)).trans hR.1, (hb.cell (p := ⟨w.heap.size + 1, 1, none⟩) (by show w.heap.size + 1 < _; omega)).trans hR.2.1, (hb.frozen (p := ⟨w.heap.size + 1, 0, none⟩) (by show w.heap.size + 1 < _; omega)).trans hR.2.2.1, (hb.frozen (p := ⟨w.heap.size + 1, 1, none⟩) (by show w.heap.size + 1 < _; omega)).trans hR.2.2.2⟩
 have HW : Hid (w.alloc (.cells #[.string o.t, .int .i64 o.k, .string o.n, slW p.1, .int .i64 o.m, .int .i64 o.f, .int .i64 o.d, slW p.2.1, .int .i64 o.h, slW p.2.2.1, .int .i64 o.e, .bool o.r, slW p.2.2.2, .int .i64 o.c] 35) = W0 ∧ W0.alloc (.cells #[.int .i64 0, .string ⟨#[]⟩] 30) = W1) := ⟨hW0, hW1⟩
 have HZ : Hid (W0.heap.size = w.heap.size + 1) := hz0
 clear hs hf hW0 hW1 hq0 hq1 hs1 hb0 hb1 hR hz0 hz1
 go_enter Tryz.func5, Tryz.ntmps5
 go_wp2_with fail
 rw [HW.out.1, HW.out.2]
 refine HF.mono ?_
 rintro e w2 ⟨rfl, hb2⟩
 clear HF
 by_cases h0 : c = 0
 ·subst h0
  go_wp2_with fail
  refine (HT.out (by first | rfl | trivial) w2 hb2).mono ?_
  rintro e w3 ⟨rfl, hb3⟩
  have hb13 := hb2.trans (hb3.mono hb2.size)
  obtain ⟨k0, k1, f0, f1⟩ := HRc.out w3 hb13
  obtain ⟨hk0, hk1⟩ := res_cells k0 k1 (.int .i64 0) (.string (str x))
  have hbe := hb01.trans (hb13.mono hb01.size)
  clear hb2 hb3 HT HRc hb13
  go_wp2
  refine bodyPost_ret (v := .agg #[.int .i64 0, .string (str x)]) (by simp [results, Tryz.results5, go_sem, hk0, hk1]) rfl ?_
  exact ⟨by rw [HV.out]; rfl, (hbe.setCell (by simp) _).setCell (by simp) _⟩
 ·have hc : (c != 0) = true := by simp [h0]
  obtain ⟨k0, k1, f0, f1⟩ := HRc.out w2 hb2
  obtain ⟨hk0, hk1⟩ := res_cells k0 k1 (.int .i64 c) (.string ⟨#[]⟩)
  have hbe := hb01.trans (hb2.mono hb01.size)
  have HN : Hid (r = (c, [])) := by show _ = _; rw [HV.out, if_neg h0]
  have HE : Hid (str [] = ⟨#[]⟩) := rfl
  clear hb2 HT HRc HV h0
  go_wp2
  refine bodyPost_ret (v := .agg #[.int .i64 c, .string ⟨#[]⟩]) (by simp [results, Tryz.results5, go_sem, hk0, hk1]) rfl ?_
  exact ⟨by rw [HN.out, HE.out], (hbe.setCell (by simp) _).setCell (by simp) _⟩
end Go.Proofs.YtjogclofjollnaaGreatDoor
namespace Go.Proofs.YtjogclofjollnaaGreatDoor
open Go.RowKit
set_option linter.unusedVariables false
def TbJ (g : Nat) (z : List (List Nat)) (w : World) : Prop := ∀ v, v < z.length → w.cell? ⟨g, v, none⟩ = some (.string (str (wdJ z v)))
theorem TbJ.below {g : Nat} {z : List (List Nat)} {w w' : World} (h : TbJ g z w) (hb : Below w.heap.size w w') : TbJ g z w' := fun v hv =>
 (hb.cell (p := ⟨g, v, none⟩) (World.block_lt_of_cell? w ⟨g, v, none⟩ (h v hv))).trans (h v hv)
def WbE (ws : List (List Nat)) (w : World) (e : Ending) (w' : World) : Prop := ∃ v, e = .returned v ∧ OwnS w' w.heap.size v ws ∧ Below w.heap.size w w'
theorem WbE.mk {ws : List (List Nat)} {w W : World} {cs : Array Value} (hb : Below w.heap.size w W) (h : cs.toList = sc ws) {n : Nat} (hn : ws.length = n) (hl : n ≤ 1000) : WbE ws w (.returned (.slice (some ⟨W.heap.size, 0, none⟩) n n)) (W.alloc (.cells cs 9)) := by
 subst hn
 exact ⟨_, rfl, OwnS.lit W w.heap.size hb.size cs ws h (by unfold maxLen; omega), hb.trans ((Below.refl _ _).alloc hb.size _)⟩
theorem step_appW {w : World} {ops : Array Oper} {o : Oper} {a : Act} {K : Act → World → Prop} {Q : Exit → Act → World → Prop} {E : Prop} (hgd : o.guard = none) (s x : Operand)
  (ho : o.op = .call { callee := .builtin .append, args := #[s, x], argTypes := #[77, 77] })
  (B : Nat) (v : Value) (l : List (List Nat)) (hs : a.eval s = v) (hown : OwnS w B v l) (B2 : Nat) (v2 : Value) (new : List (List Nat)) (hx : a.eval x = v2) (hown2 : OwnS w B2 v2 new) (hsz : l.length + new.length ≤ 134217728) (hB : B ≤ w.heap.size)
  (h : ∀ v' w1, OwnS w1 B v' (l ++ new) → Below B w w1 → K (a.put o.dst v') w1) : if Region.wanted o (yielded ops a.tmps) = true then Oper.wp Tryz.prog o a w K Q else E := by
 rcases hown2.2 with ⟨hv, hn⟩ | ⟨g, cap, cur, hv, -, -, h4, h5, -⟩
 ·have hnew : new = [] := List.length_eq_zero_iff.1 hn
  subst hnew
  have hw : Region.wanted o (yielded ops a.tmps) = true := by simp [Region.wanted, hgd]
  rw [if_pos hw]
  obtain ⟨i0, hi, hz0, hz1, hz2⟩ := info_parts infoS
  have hrun := run_append_owned_none (P := Tryz.prog) (w := w) B 77 o.type 9 i0 1 Tryz.underlying77 hi v l.length (sc l) hown
  have hx0 : a.eval x = .slice none 0 0 := hx.trans hv
  unfold Oper.wp
  simp [execOp, ho, resolve, invoke, builtin, hs, hx0, hrun, Result.andThen]
  exact h v w (by rw [List.append_nil]; exact hown) (Below.refl _ _)
 ·subst hv
  have hrd := OwnS.rd hown2
  refine step_appT hgd s x ho B v l hs hown ⟨g, 0, none⟩ new.length cap new hx rfl (fun j hj => ?_) hsz hB h
  obtain ⟨b', off', e, -, hc⟩ := hrd.2.at_ (by omega)
  cases e
  rw [Go.WideShapes.add_plain]
  exact hc j hj
theorem join_rowS (s : Nat) (w : World) (B : Nat) (a : Option Addr) (n c : Nat) (ws : List (List Nat)) (hO : OwnS w B (.slice a n c) ws) (hp : 0 < ws.length) (hl : ws.length ≤ 1000) (hr : (jnJ s ws).length ≤ 100000000) :
  Calls Tryz.prog 42 #[.slice a n c, .string ⟨#[UInt8.ofNat s]⟩] w fun e w' => e = .returned (.string (str (jnJ s ws))) ∧ Below w.heap.size w w' := by
 have hj := jnJ_join s ws
 obtain ⟨aw, cw, hv, hwc, hwm⟩ := hO.form
 cases hv
 obtain ⟨hlen, hrd⟩ := hO.rd
 obtain ⟨g, o, rfl, hglt, hcell⟩ := hrd.at_ hp
 have HC := Tryz.strings_Join g o c (ws.map str) ⟨#[UInt8.ofNat s]⟩ w (fun i x hx => by
  have hi : i < ws.length := by
   rcases Nat.lt_or_ge i ws.length with h | h
   ·exact h
   ·rw [List.getElem?_eq_none (by rw [List.length_map]; exact h)] at hx; cases hx
  rw [List.getElem?_map, List.getElem?_eq_getElem hi, Option.map_some] at hx
  cases hx
  have := hcell i hi
  rw [nthS_get hi] at this
  exact this) hglt (by rw [List.length_map]; omega) (by rw [List.length_map]; exact hwc) (by
  rw [List.map_map]
  rw [show (List.map ((fun x => x.data.toList) ∘ str) ws) = (ws.map fun x => (str x).data.toList) from rfl, show (ByteArray.mk #[UInt8.ofNat s]).data.toList = [UInt8.ofNat s] from rfl, hj, List.length_map]
  omega)
 rw [List.length_map, List.map_map, show (List.map ((fun x => x.data.toList) ∘ str) ws) = (ws.map fun x => (str x).data.toList) from rfl, show (ByteArray.mk #[UInt8.ofNat s]).data.toList = [UInt8.ofNat s] from rfl, hj] at HC
 exact HC
theorem digitsOf_J (n : Int) (w : World) (h0 : 0 ≤ n) (h9 : n ≤ 9999) (ht : TabW w) : Calls Tryz.prog 72 #[.int .i64 n] w fun e w' => e = .returned (.string (str (d4J n))) ∧ Below w.heap.size w w' := by
 obtain ⟨m, rfl⟩ : ∃ m : Nat, n = (m : Int) := ⟨n.toNat, by omega⟩
 have HF := Tryz.strconv_FormatInt_10 (m : Int) (by omega) (by omega) w ht
 rw [itoa4_str (by omega)] at HF
 have HV : Hid (d4J (m : Int) = dgF 3 m) := rfl
 go_enter Tryz.func72, Tryz.ntmps72
 go_wp2_with fail
 refine HF.mono ?_
 rintro e w1 ⟨rfl, k, os, rfl⟩
 have hbw := Lib.below_grow w.heap.size w (Nat.le_refl _) k os
 go_wp2
 go_ret
 exact ⟨by rw [HV.out]; rfl, hbw⟩
theorem orderWord_J (b : Bool) (w : World) : Calls Tryz.prog 77 #[.bool b] w fun e w' => e = .returned (.string (str (if b then [100, 111, 119, 110] else [117, 112]))) ∧ Below w.heap.size w w' := by
 cases b with
 | true =>
  go_enter Tryz.func77, Tryz.ntmps77
  go_wp2
  go_ret
  exact ⟨rfl, Below.refl _ _⟩
 | false =>
  go_enter Tryz.func77, Tryz.ntmps77
  go_wp2
  go_ret
  exact ⟨rfl, Below.refl _ _⟩
def pwJ (h : Int) (l : List Int) : List (List Nat) := if ptK h then [ptJ l] else []
set_option maxHeartbeats 3200000 in
set_option maxRecDepth 100000 in
theorem pathWords_any (o : CmR) (p : SlC) {lo : Nat} (w : World) (hs : IsCm lo w p o) (ht : TabW w) (hn : o.p.length ≤ 3) (hv : ∀ z ∈ o.p, 1 ≤ z ∧ z ≤ 9) :
  Calls Tryz.prog 75 #[cmX o p] w fun e w' => WbE (pwJ o.h o.p) w e w' := by
 obtain ⟨W0, hW0⟩ : ∃ W, w.alloc (.cells #[.string o.t, .int .i64 o.k, .string o.n, slW p.1, .int .i64 o.m, .int .i64 o.f, .int .i64 o.d, slW p.2.1, .int .i64 o.h, slW p.2.2.1, .int .i64 o.e, .bool o.r, slW p.2.2.2, .int .i64 o.c] 35) = W := ⟨_, rfl⟩
 have hb0 : Below w.heap.size w W0 := by rw [← hW0]; exact (Below.refl _ _).alloc (Nat.le_refl _) _
 have hq0 : Qm W0 w.heap.size (cmQ o p) := by rw [← hW0]; exact Qm.new _ _ _ _ _ _ _ _ _ _ _ _ _ _ _ _
 have hp : IsIl lo W0 p.2.2.1 o.p := hs.2.2.1.near (.of_below hb0)
 have ht0 := ht.below hb0
 obtain ⟨c0, c1, c2, c3, c4, c5, c6, c7, c8, c9, c10, c11, c12, c13⟩ := hq0
 obtain ⟨ot, ok, on, oy, om, of0, od, ob, oh, op, oe, or, ou, oc⟩ := o
 obtain ⟨⟨ya, yn, yc⟩, ⟨ba, bn, bc'⟩, ⟨pa, pn, pc⟩, ua, un, uc⟩ := p
 dsimp only [slW] at *
 have hpl : op.length = pn := hp.1
 have hrd : RdI W0 pa op := hp.2.2.2.1
 have HP := hasPath_any oh W0
 have HWf : Hid (ptK oh = false → pwJ oh op = []) := fun h => by unfold pwJ; rw [h]; rfl
 have HWt : Hid (ptK oh = true → pwJ oh op = [ptJ op]) := fun h => by unfold pwJ; rw [if_pos h]
 generalize pwJ oh op = ws at *
 clear hs hp ht c0 c1 c2 c3 c4 c5 c6 c7 c10 c11 c12 c13
 go_enter Tryz.func75, Tryz.ntmps75
 go_wp2_with fail
 clear hW0
 refine HP.mono ?_
 rintro e w1 ⟨rfl, rfl⟩
 clear HP
 cases hpk : ptK oh with
 | false =>
  have HW := HWf.out hpk
  subst HW
  clear HWf HWt hpk
  go_wp2
  go_ret
  exact ⟨_, rfl, OwnS.nil _ _, hb0⟩
 | true =>
  have HW : Hid (ws = [ptJ op]) := HWt.out hpk
  clear HWf HWt hpk
  by_cases hz : pn = 0
  ·subst hz
   have hnil : op = [] := List.length_eq_zero_iff.1 hpl
   subst hnil
   go_wp2
   go_ret
   rw [HW.out]
   exact WbE.mk (ws := [[48]]) (cs := #[.string ⟨#[48]⟩]) hb0 rfl rfl (by omega)
  ·have hz' : ((pn : Int) == 0) = false := beq_eq_false_iff_ne.2 (by omega)
   have HL : Hid (op.length = pn) := hpl
   have hp3 : pn ≤ 3 := by omega
   have hz0 : w.heap.size ≤ W0.heap.size := hb0.size
   clear hpl
   go_wp2
   go_loopw [3, 18] (fun v i wr => ∃ k : Nat, k ≤ pn ∧ i = .int .i64 k ∧ OwnS wr W0.heap.size v ((op.take k).map d4J) ∧ Below W0.heap.size W0 wr) (fun _ i _ => pn - (intOf i).toNat)
   case atStart => exact ⟨0, Nat.zero_le _, rfl, OwnS.nil _ _, Below.refl _ _⟩
   case round =>
    obtain ⟨k, hk, rfl, hown, hbel⟩ := hrel
    by_cases hkn : k < pn
    ·obtain ⟨b, off, rfl, hblt, hcell⟩ := (hrd.below hbel).at_ (by rw [HL.out]; omega)
     have hc0 := hcell k (by rw [HL.out]; omega)
     have hki : (k : Int) < (pn : Int) := by omega
     have hzv := hv (nthI op k) (by rw [nthI_get (by rw [HL.out]; omega)]; exact List.getElem_mem _)
     have HT : Hid ((op.take (k + 1)).map d4J = (op.take k).map d4J ++ [d4J (nthI op k)]) := by
      show _ = _
      rw [take_snocI op k (by rw [HL.out]; omega), List.map_append]
      rfl
     have HLK : Hid (((op.take k).map d4J).length = k) := by show _ = _; rw [List.length_map, List.length_take, HL.out]; omega
     clear hcell
     generalize nthI op k = z at *
     have HD := digitsOf_J z wr (by omega) (by omega) (ht0.below hbel)
     go_wp2_with fail
     refine HD.mono ?_
     clear HD
     rintro e w2 ⟨rfl, hb2⟩
     have hown2 := hown.below hb2 (Nat.le_refl _)
     have hbel2 := hbel.trans (hb2.mono hbel.size)
     clear hb2 hbel hown hc0
     go_wp2_with (at_builtin; refine wpList_app_newT (by rfl) _ _ (by rfl) W0.heap.size _ ((op.take k).map d4J) (by rfl) hown2 1 1 [d4J z] (by rfl) (by rfl) (by rfl) (by rw [HLK.out]; omega) hbel2.size ?_; intro v' w3 hown3 hb3)
     have hbel3 := hbel2.trans hb3
     rw [← HT.out] at hown3
     clear hb3 hbel2 hown2
     go_roundw
     case rel => exact ⟨k + 1, by omega, by go_num, hown3, hbel3⟩
     case measure => simp [intOf]; omega
    ·have hke : k = pn := by omega
     subst hke
     have hki : ¬ (k : Int) < (k : Int) := by omega
     have HTK : Hid (op.take k = op) := List.take_of_length_le (by rw [HL.out]; exact Nat.le_refl _)
     rw [HTK.out] at hown
     have hml : (op.map d4J).length = k := by rw [List.length_map]; exact HL.out
     have HPT : Hid (ptJ op = jnJ 46 (op.map d4J)) := by
      show _ = _
      unfold ptJ
      rw [if_neg]
      intro h
      rw [h] at hml
      simp at hml
      omega
     obtain ⟨a', c', rfl, -, -⟩ := hown.form
     rw [hml] at hown ⊢
     have hjl := jn4_len 46 (op.map d4J) (fun x hx => by obtain ⟨z, _, rfl⟩ := List.mem_map.1 hx; exact d4J_len z)
     rw [hml] at hjl
     have HJ := join_rowS 46 wr _ a' k c' (op.map d4J) hown (by omega) (by omega) (by omega)
     rw [← HPT.out] at HJ
     clear hown hml hjl HPT hrd hv HTK
     go_wp2_with fail
     refine HJ.mono ?_
     clear HJ
     rintro e w2 ⟨rfl, hb2⟩
     have hbw2 : Below w.heap.size w w2 := hb0.trans ((hbel.trans (hb2.mono hbel.size)).mono hz0)
     clear hb2 hbel
     go_wp2
     go_ret
     rw [HW.out]
     exact WbE.mk (ws := [ptJ op]) (cs := #[.string (str (ptJ op))]) hbw2 rfl rfl (by omega)
end Go.Proofs.YtjogclofjollnaaGreatDoor
namespace Go.Proofs.YtjogclofjollnaaGreatDoor
open Go.RowKit
theorem told_not : ∀ (k : Nat), k < 15 → 1 ≤ k → ∀ (pt n y m f d b h p e r u c : Bool), (h = true ∨ pt = false) →
  decide (Go.bits BinOp.andNot IntKind.i64 (bUp [n, y, m, f, d, b, h, p, e, r, u, c] 12 : Int) (myK k pt) = 0) = fmK k pt n y m f d b h p e r u c := by decide +kernel
end Go.Proofs.YtjogclofjollnaaGreatDoor
