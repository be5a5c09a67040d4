/- What is done to a shelf: a mailbox erased, a message added; no conditions beyond those that each fact names · What is done to a shelf: flags of messages; no conditions beyond those that each fact names. -/
import Derived.Test.YtejbbnpgghpgaaaGreatDoorSteToDda
namespace Go.Proofs.YtejbbnpgghpgaaaGreatDoor
open Go.RowKit
set_option linter.unusedVariables false
theorem OwZ.one (e : TypeId) (w : World) (z : Int) : OwZ e (w.alloc (.cells #[.int .i64 z] e)) (some ⟨w.heap.size, 0, none⟩, 1, 1) [z] := ⟨rfl, .inr ⟨w.heap.size, 1, #[.int .i64 z], rfl, Nat.zero_le _, heap_alloc_new w _, Nat.le_refl _, by unfold maxLen; omega, rfl, rfl⟩⟩
theorem lf_erase (xs : List Dx) (i : Nat) (hi : i < xs.length) (h3 : xs.length ≤ 3) : (lfN [(i : Int)] xs.length).map (nthQ (xs.map Dx.q)) = (xs.eraseIdx i).map Dx.q := by
  have f : ∀ i n, i < n → n ≤ 3 → lfN [((i : Nat) : Int)] n = (List.range n).eraseIdx i := by
    intro i n h1 h2
    obtain rfl | rfl | rfl : n = 1 ∨ n = 2 ∨ n = 3 := by omega
    · obtain rfl : i = 0 := by omega
      decide
    · obtain rfl | rfl : i = 0 ∨ i = 1 := by omega
      · decide
      · decide
    · obtain rfl | rfl | rfl : i = 0 ∨ i = 1 ∨ i = 2 := by omega
      · decide
      · decide
      · decide
  rw [f i xs.length hi h3]
  match xs, hi, h3 with
  | [a], hi, _ =>
    obtain rfl : i = 0 := by simp at hi; omega
    rfl
  | [a, b], hi, _ =>
    obtain rfl | rfl : i = 0 ∨ i = 1 := by simp at hi; omega
    · rfl
    · rfl
  | [a, b, c], hi, _ =>
    obtain rfl | rfl | rfl : i = 0 ∨ i = 1 ∨ i = 2 := by simp at hi; omega
    · rfl
    · rfl
    · rfl
theorem map_erase {α β : Type} (f : α → β) : ∀ (l : List α) (i : Nat), (l.eraseIdx i).map f = (l.map f).eraseIdx i
  | [], _ => rfl
  | _ :: _, 0 => rfl
  | a :: l, i + 1 => by rw [List.eraseIdx_cons_succ, List.map_cons, List.map_cons, List.eraseIdx_cons_succ, map_erase f l i]
theorem CX.sub {N : Nat} {w w1 : World} {s s' : SlQ} {l : List Bx} {xs xs' : List Dx} (h : CX N w s l xs) (hsub : xs'.Sublist xs) (hb : Below w.heap.size w w1) (hN : N ≤ w.heap.size) (hrow : w1.ownsRow 0 128 4 (slW s') (xs'.map Dx.q).length (qc (xs'.map Dx.q))) (hge : ∀ g ∈ blkS s', w.heap.size ≤ g) :
    CX N w1 s' (xs'.map Dx.bx) xs' := by
  have hfs : (fpX xs').Sublist (fpX xs) := flat_sub hsub
  refine ⟨⟨by rw [List.length_map] at hrow; exact hrow, fun d hd => (h.1.2 d (hsub.subset hd)).below hb (Nat.le_refl _)⟩, rfl, ?_, fun g hg => ?_⟩
  · exact nd_app (blkS_nodup _) (nd_sub hfs (nd_right h.2.2.1)) (fun g hg hc => by have h1 := hge g hg; have h2 := h.1.lt g (List.mem_append_right _ (hfs.subset hc)); omega)
  · rcases List.mem_append.1 hg with hg | hg
    · exact Nat.le_trans hN (hge g hg)
    · exact h.2.2.2 g (List.mem_append_right _ (hfs.subset hg))
def erR (v : Int) (l : List Bx) (i : Nat) : Rs := (0, [], v, l.eraseIdx i)
set_option maxHeartbeats 3200000 in
set_option maxRecDepth 100000 in
theorem eraseBox_any (N gs : Nat) (v : Int) (l : List Bx) (s : SlQ) (xs : List Dx) (o : OpR) (p : SlO) (i : Nat) (w : World) (hS : Sh N w gs v l s xs) (hG : GdS v l) (hN : N ≤ w.heap.size) (hi : i < l.length) :
    Calls Tryz.prog 160 #[.pointer (some ⟨gs, 0, none⟩), opX o p, .int .i64 (i : Int)] w fun e w' => DeEnd N gs (erR v l i) w e w' := by
  obtain ⟨ok, ox, ot, ou, om, of, od, ob⟩ := o
  have hb0 : Below w.heap.size w ((w.alloc (.cells #[.int .i64 ok, .string ox, .string ot, slW p.1, .int .i64 om, .int .i64 of, .int .i64 od, slW p.2] 38)).alloc (.cells #[.int .i64 (i : Int)] 3)) := ((Below.refl _ _).alloc (Nat.le_refl _) _).alloc (by simp) _
  have hS0 := hS.below hb0 (Nat.le_refl _)
  have hSA := hS.below ((Below.refl _ w).alloc (Nat.le_refl _) (.cells #[.int .i64 ok, .string ox, .string ot, slW p.1, .int .i64 om, .int .i64 of, .int .i64 od, slW p.2] 38)) (Nat.le_refl _)
  have hbN := hb0.mono hN
  have hZ := OwZ.one 3 (w.alloc (.cells #[.int .i64 ok, .string ox, .string ot, slW p.1, .int .i64 om, .int .i64 of, .int .i64 od, slW p.2] 38)) (i : Int)
  obtain ⟨a, cap, rfl, hxl, hlc, hcm, -⟩ := hS.len
  obtain ⟨⟨hv1, hv2⟩, hl3, -⟩ := hG
  obtain ⟨d0, d1⟩ := id hSA.1.1
  have hzN : N ≤ ((w.alloc (.cells #[.int .i64 ok, .string ox, .string ot, slW p.1, .int .i64 om, .int .i64 of, .int .i64 od, slW p.2] 38)).alloc (.cells #[.int .i64 (i : Int)] 3)).heap.size := Nat.le_trans hN hb0.size
  have HC := withoutX_any (a, l.length, cap) (some ⟨(w.alloc (.cells #[.int .i64 ok, .string ox, .string ot, slW p.1, .int .i64 om, .int .i64 of, .int .i64 od, slW p.2] 38)).heap.size, 0, none⟩, 1, 1) xs [(i : Int)] _ hS0.2.1.1.1 (by omega) hZ (by simp) (fun z hz => by simp at hz; omega)
  rw [lf_erase xs i (by omega) (by omega)] at HC
  unfold maxLen at hcm
  simp only [World.size_alloc] at HC
  dsimp only [slW] at d0 d1 HC
  dsimp only [opX]
  go_enter Tryz.func160, Tryz.ntmps160
  go_wp2_with fail
  generalize (w.alloc (.cells #[.int .i64 ok, .string ox, .string ot, slW p.1, .int .i64 om, .int .i64 of, .int .i64 od, slW p.2] 38)).alloc (.cells #[.int .i64 (i : Int)] 3) = W at *
  refine HC.mono ?_
  rintro e W1 ⟨s1, rfl, hr1, hge1, hb1⟩
  have hS1 := hS0.below hb1 (Nat.le_refl _)
  have hbN1 : Below N w W1 := hbN.trans (hb1.mono hzN)
  have hC1 := hS0.2.1.sub (List.eraseIdx_sublist xs i) hb1 hzN hr1 hge1
  have hgn : gs ∉ blkS s1 ++ fpX (xs.eraseIdx i) := fun hc => by
    rcases List.mem_append.1 hc with hc | hc
    · have h1 := hge1 _ hc; have h2 := hS0.1.lt; omega
    · exact hS0.2.2.1 (List.mem_append_right _ ((flat_sub (f := fpD) (List.eraseIdx_sublist xs i)).subset hc))
  have hE : (xs.eraseIdx i).map Dx.bx = l.eraseIdx i := by rw [← hS0.2.1.2.1]; exact map_erase Dx.bx xs i
  rw [hE] at hC1
  have HS2 : Hid (Sh N (W1.setCell ⟨gs, 1, none⟩ (slW s1)) gs v (l.eraseIdx i) s1 (xs.eraseIdx i)) := ⟨hS1.1.set1 (slW s1), hC1.far gs 1 (slW s1) hgn, hgn, hS.2.2.2⟩
  have HB2 : Hid (_) := below_put hbN1 gs 1 (slW s1) hS.2.2.2
  obtain ⟨e0, e1⟩ := id hS1.1.1
  have fz := hS1.1.2 1
  dsimp only [slW] at e0 e1
  clear HC hS0 hSA d0 d1 hC1 hr1 hb1 hb0 hbN hZ
  go_wp2
  go_ret2
  exact .inr ⟨rfl, (none, 0, 0), s1, _, rfl, OwZ.nil _ _, HS2.out, fun g hg => by simp [blkS] at hg, HB2.out⟩
def adR (v : Int) (l : List Bx) (i : Nat) (f d : Int) (c : List Nat) : Rs := if roomB (nthX l i).x (nthX l i).m.length 1 = true then (0, [(nthX l i).x], v, l.set i (putB (nthX l i) f d c)) else badR 10
theorem Sh.turn {N gs : Nat} {w w' : World} {v : Int} {l l' : List Bx} {s : SlQ} {xs xs' : List Dx} (h : Sh N w gs v l s xs) (hC : CX N w' s l' xs') (hm : ∀ g ∈ blkS s ++ fpX xs', g ∈ blkS s ++ fpX xs ∨ w.heap.size ≤ g) (hK : Kx (blkS s ++ fpX xs) w w') : Sh N w' gs v l' s xs' :=
  ⟨h.1.block (hK.block gs h.1.lt h.2.2.1), hC, fun hc => by rcases hm gs hc with h' | h'; exact h.2.2.1 h'; have := h.1.lt; omega, h.2.2.2⟩
set_option maxHeartbeats 3200000 in
set_option maxRecDepth 100000 in
theorem addMessage_any (N gs : Nat) (v : Int) (l : List Bx) (s : SlQ) (xs : List Dx) (o : OpR) (p : SlO) (i : Nat) {lo : Nat} (w : World) (hS : Sh N w gs v l s xs) (hG : GdS v l) (hN : N ≤ w.heap.size) (hi : i < l.length) (hI : IsSl lo w p.2 o.b) (hbl : o.b.length ≤ 400) :
    Calls Tryz.prog 161 #[.pointer (some ⟨gs, 0, none⟩), opX o p, .int .i64 (i : Int)] w fun e w' => DeEnd N gs (adR v l i o.f o.d o.b) w e w' := by
  obtain ⟨ok, ox, ot, ou, om, of, od, ob⟩ := o
  have hb0 : Below w.heap.size w (w.alloc (.cells #[.int .i64 ok, .string ox, .string ot, slW p.1, .int .i64 om, .int .i64 of, .int .i64 od, slW p.2] 38)) := (Below.refl _ _).alloc (Nat.le_refl _) _
  have hQ0 := Qo.new w (.int .i64 ok) (.string ox) (.string ot) (slW p.1) (.int .i64 om) (.int .i64 of) (.int .i64 od) (slW p.2) 38
  have hS0 := hS.below hb0 (Nat.le_refl _)
  have hI0 := hI.below hb0
  have hbN := hb0.mono hN
  have hzN := Nat.le_trans hN hb0.size
  obtain ⟨a, cap, rfl, hxl, hlc, hcm, ha⟩ := hS.len
  obtain ⟨⟨hv1, hv2⟩, hl3, hGb⟩ := hG
  obtain ⟨⟨hx1, hx2⟩, hm6, -⟩ := hGb _ (nthX_mem hi)
  obtain ⟨gX, rfl⟩ : ∃ gX, a = some ⟨gX, 0, none⟩ := by
    rcases ha with ⟨-, h0⟩ | h0
    · rw [h0] at hi; simp at hi
    · exact h0
  obtain ⟨gX', e, hgl, c0, c1, c2, c3⟩ := hS0.2.1.1.row_at i (by omega)
  cases e
  obtain ⟨d0, d1⟩ := id hS0.1.1
  have hix : i < xs.length := by omega
  have hbx : nthX l i = xs[i].bx := (congrArg (fun l => nthX l i) hS.2.1.2.1.symm).trans (map_nthX hix)
  have hCB := hS0.2.1.box i (by omega)
  obtain ⟨ma, mcap, hms, hml, hmc, hmm, -⟩ := hCB.form
  unfold maxLen at hcm hmm
  dsimp only [slW] at d0 d1
  rw [hms, List.length_map] at c3
  have hxm : (nthX l i).m.length = xs[i].ms.length := by rw [hbx]; simp [Dx.bx]
  have hxx : (nthX l i).x = xs[i].x := by rw [hbx]; rfl
  rw [List.length_map] at hmc
  have HR := hasRoom_any xs[i].n xs[i].v xs[i].x ma xs[i].ms.length mcap 1 (w.alloc (.cells #[.int .i64 ok, .string ox, .string ot, slW p.1, .int .i64 om, .int .i64 of, .int .i64 od, slW p.2] 38)) (by omega) (by omega) (by omega)
  have HPUT : Hid (∀ (W : World), Below (w.alloc (.cells #[.int .i64 ok, .string ox, .string ot, slW p.1, .int .i64 om, .int .i64 of, .int .i64 od, slW p.2] 38)).heap.size (w.alloc (.cells #[.int .i64 ok, .string ox, .string ot, slW p.1, .int .i64 om, .int .i64 of, .int .i64 od, slW p.2] 38)) W → Calls Tryz.prog 192 #[.pointer (some ⟨gX, i * 4, none⟩), .agg #[.int .i64 0, .int .i64 of, .int .i64 od, slW p.2]] W fun e w' => PutEnd N (some ⟨gX, 0, none⟩, l.length, cap) l xs i of od ob W e w') := fun W hb =>
    put_any N gX i _ l xs 0 of od p.2 ob W (hS0.2.1.below hb (Nat.le_refl _)) rfl (by omega) (hI0.below hb) (by dsimp only at hbl; omega) (by omega) (by omega) (Nat.le_trans hzN hb.size)
  have HE : Hid (roomB (nthX l i).x (nthX l i).m.length 1 = roomB xs[i].x xs[i].ms.length 1) := by show _ = _; rw [hxx, hxm]
  have hii : (i : Int) < (l.length : Int) := by omega
  have HX : Hid ((nthX l i).x = xs[i].x) := hxx
  clear hbx hxm hxx hCB hms hml
  generalize xs[i] = q at *
  obtain ⟨qn, qv, qx, qs, qm⟩ := q
  dsimp only at c0 c1 c2 c3 HR HE HX
  dsimp only [opX]
  by_cases hroom : roomB qx qm.length 1 = true
  · have HV : Hid (adR v l i of od ob = (0, [(nthX l i).x], v, l.set i (putB (nthX l i) of od ob))) := by show _ = _; unfold adR; rw [HE.out, if_pos hroom]
    rw [hroom] at HR
    go_enter Tryz.func161, Tryz.ntmps161
    go_wp2_with fail
    generalize w.alloc (.cells #[.int .i64 ok, .string ox, .string ot, slW p.1, .int .i64 om, .int .i64 of, .int .i64 od, slW p.2] 38) = W at *
    refine HR.mono ?_
    rintro e W1 ⟨rfl, hb1⟩
    have hQ1 := hQ0.below hb1 hQ0.lt
    have hS1 := hS0.below hb1 (Nat.le_refl _)
    have hbN1 := hbN.trans (hb1.mono hzN)
    obtain ⟨o0, o1, o2, o3, o4, o5, o6, o7⟩ := id hQ1
    dsimp only at o0 o1 o2 o3 o4 o5 o6 o7
    clear HR c0 c1 c2 c3 d0 d1 hQ0
    go_wp2_with fail
    refine (HPUT.out W1 hb1).mono ?_
    rintro e W2 ⟨d2, rfl, hC2, hm2, hK2, -⟩
    have hS2 := hS1.turn hC2 hm2 hK2
    have hbN2 : Below N w W2 := hbN1.trans (hK2.belowN (Nat.le_trans hzN hb1.size) hS1.2.1.2.2.2)
    have hz2 : N ≤ W2.heap.size := Nat.le_trans (Nat.le_trans hzN hb1.size) hK2.size
    have HS3 : Hid (Sh N (W2.alloc (.cells #[.int .i64 (nthX l i).x] 2)) gs v (l.set i (putB (nthX l i) of od ob)) (some ⟨gX, 0, none⟩, l.length, cap) (xs.set i d2)) := hS2.alloc _
    have HB3 : Hid (Below N w (W2.alloc (.cells #[.int .i64 (nthX l i).x] 2))) := hbN2.alloc hz2 _
    have HZ3 := OwZ.one 2 W2 (nthX l i).x
    have HZ3' : Hid (_) := HZ3
    have HG3 : Hid (∀ g ∈ blkS ((some ⟨W2.heap.size, 0, none⟩, 1, 1) : SlQ), N ≤ g ∧ g ≠ gs ∧ g ∉ blkS ((some ⟨gX, 0, none⟩, l.length, cap) : SlQ) ++ fpX (xs.set i d2)) := fun g hg => by
      simp [blkS] at hg
      subst hg
      exact ⟨hz2, by have := hS2.1.lt; omega, fun hc => by have := hS2.2.1.1.lt _ hc; omega⟩
    clear HZ3 hS2 hbN2 hC2 hm2 hK2 hS1 hbN1 hb1 HPUT
    go_wp2
    go_ret2
    rw [HV.out]
    exact .inr ⟨rfl, (some ⟨W2.heap.size, 0, none⟩, 1, 1), _, _, rfl, HZ3'.out, HS3.out, HG3.out, HB3.out⟩
  · have HV : Hid (adR v l i of od ob = badR 10) := by show _ = _; unfold adR; rw [HE.out, if_neg hroom]
    have hr' : roomB qx qm.length 1 = false := by simpa using hroom
    rw [hr'] at HR
    go_enter Tryz.func161, Tryz.ntmps161
    go_wp2_with fail
    generalize w.alloc (.cells #[.int .i64 ok, .string ox, .string ot, slW p.1, .int .i64 om, .int .i64 of, .int .i64 od, slW p.2] 38) = W at *
    refine HR.mono ?_
    rintro e W1 ⟨rfl, hb1⟩
    have hbN1 := hbN.trans (hb1.mono hzN)
    clear HPUT HR
    go_wp2
    go_ret2
    rw [HV.out]
    exact .inl ⟨by decide, rfl, hbN1⟩
end Go.Proofs.YtejbbnpgghpgaaaGreatDoor
namespace Go.Proofs.YtejbbnpgghpgaaaGreatDoor
open Go.RowKit
set_option linter.unusedVariables false
def Dm.fl (d : Dm) (f : Int) : Dm := ⟨⟨d.m.u, f, d.m.d, d.m.b⟩, d.s⟩
def dmZ : Dm := ⟨⟨0, 0, 0, []⟩, (none, 0, 0)⟩
def nthD (l : List Dm) (k : Nat) : Dm := l.getD k dmZ
theorem nthD_get {l : List Dm} {k : Nat} (h : k < l.length) : nthD l k = l[k] := by unfold nthD; rw [List.getD_eq_getElem?_getD, List.getElem?_eq_getElem h]; rfl
def flJ (m b : Int) (ms : List Dm) (P : List Int) : List Dm := (List.range ms.length).map fun (k : Nat) => if hasZ P (k : Int) = true then (nthD ms k).fl (tuF (nthD ms k).m.f m b) else nthD ms k
theorem flJ_len (m b : Int) (ms : List Dm) (P : List Int) : (flJ m b ms P).length = ms.length := by simp [flJ]
theorem flJ_nil (m b : Int) (ms : List Dm) : flJ m b ms [] = ms := by
  apply List.ext_getElem
  · rw [flJ_len]
  · intro k h1 h2
    simp [flJ, hasZ, nthD_get h2]
theorem flJ_get {m b : Int} {ms : List Dm} {P : List Int} {k : Nat} (h : k < ms.length) (h0 : hasZ P (k : Int) = false) (h' : k < (flJ m b ms P).length) : (flJ m b ms P)[k] = ms[k] := by
  simp [flJ, h0, nthD_get h]
theorem flJ_step {m b : Int} {ms : List Dm} {P : List Int} {k : Nat} (h : k < ms.length) (h0 : hasZ P (k : Int) = false) : (flJ m b ms P).set k (ms[k].fl (tuF ms[k].m.f m b)) = flJ m b ms (P ++ [(k : Int)]) := by
  apply List.ext_getElem
  · simp [flJ]
  · intro j h1 h2
    rw [flJ_len] at h2
    rw [List.getElem_set]
    by_cases hjk : k = j
    · subst hjk
      rw [if_pos rfl]
      simp [flJ, hasZ, nthD_get h]
    · rw [if_neg hjk]
      have : hasZ (P ++ [(k : Int)]) (j : Int) = hasZ P (j : Int) := by
        unfold hasZ
        congr 1
        simp only [List.mem_append, List.mem_singleton, eq_iff_iff]
        constructor
        · rintro (h | h)
          · exact h
          · omega
        · exact .inl
      simp [flJ, this]
theorem flJ_fp (m b : Int) (ms : List Dm) (P : List Int) : fpM (flJ m b ms P) = fpM ms := by
  unfold fpM
  rw [List.flatMap_def, List.flatMap_def]
  congr 1
  apply List.ext_getElem
  · rw [List.length_map, List.length_map, flJ_len]
  · intro k h1 h2
    rw [List.length_map] at h2
    rw [List.getElem_map, List.getElem_map]
    simp only [flJ, List.getElem_map, List.getElem_range]
    split
    · simp [Dm.fl, nthD_get h2]
    · rw [nthD_get h2]
theorem CX.flag {N : Nat} {w : World} {s : SlQ} {l : List Bx} {xs : List Dx} (h : CX N w s l xs) (i : Nat) (hi : i < xs.length) (hN : N ≤ w.heap.size) {g n cap : Nat} (hs : xs[i].s = (some ⟨g, 0, none⟩, n, cap)) (k : Nat) (hk : k < xs[i].ms.length) (f : Int) :
    CX N (w.setCell ⟨g, k * 4 + 1, none⟩ (.int .i64 f)) s (l.set i (Dx.bx ⟨xs[i].n, xs[i].v, xs[i].x, xs[i].s, xs[i].ms.set k (xs[i].ms[k].fl f)⟩)) (xs.set i ⟨xs[i].n, xs[i].v, xs[i].x, xs[i].s, xs[i].ms.set k (xs[i].ms[k].fl f)⟩) ∧ Kx (blkS s ++ fpX xs) w (w.setCell ⟨g, k * 4 + 1, none⟩ (.int .i64 f)) := by
  have hB := h.box i hi
  have hgm : g ∈ blkS xs[i].s := by rw [hs]; simp [blkS]
  have hgf : g ∈ fpD xs[i] := List.mem_append_left _ hgm
  have hgs : g ∉ blkS s := fun hc => h.off i hi hc hgf
  have hfm : fpM (xs[i].ms.set k (xs[i].ms[k].fl f)) = fpM xs[i].ms := by
    show (xs[i].ms.set k (xs[i].ms[k].fl f)).flatMap (fun d => blkS d.s) = _
    rw [flat_set _ _ _ _ hk]
    exact (flat_split (fun d => blkS d.s) xs[i].ms k hk).symm
  have hfd : fpD ⟨xs[i].n, xs[i].v, xs[i].x, xs[i].s, xs[i].ms.set k (xs[i].ms[k].fl f)⟩ = fpD xs[i] := by show blkS _ ++ fpM _ = _; rw [hfm]; rfl
  have hK : Kx (blkS s ++ fpD xs[i]) w (w.setCell ⟨g, k * 4 + 1, none⟩ (.int .i64 f)) := (Kx.refl _ _).set g _ _ (.inl (List.mem_append_right _ hgf))
  have hrow : (w.setCell ⟨g, k * 4 + 1, none⟩ (.int .i64 f)).ownsRow 0 128 4 (slW s) xs.length (qc ((xs.map Dx.q).set i (Dx.q ⟨xs[i].n, xs[i].v, xs[i].x, xs[i].s, xs[i].ms.set k (xs[i].ms[k].fl f)⟩))) := by
    have e : (xs.map Dx.q).set i (Dx.q ⟨xs[i].n, xs[i].v, xs[i].x, xs[i].s, xs[i].ms.set k (xs[i].ms[k].fl f)⟩) = xs.map Dx.q := by
      have : (xs.map Dx.q)[i]'(by rw [List.length_map]; exact hi) = Dx.q ⟨xs[i].n, xs[i].v, xs[i].x, xs[i].s, xs[i].ms.set k (xs[i].ms[k].fl f)⟩ := by rw [List.getElem_map]; rfl
      rw [← this]; exact List.set_getElem_self _
    rw [e]
    exact row_keep h.1.1 fun g' hg' => Below.heap_setCell _ _ _ _ (fun e => hgs (by rw [← show g' = g from e]; exact mem_blkS.2 hg'))
  have hmr : (w.setCell ⟨g, k * 4 + 1, none⟩ (.int .i64 f)).ownsRow 0 136 4 (slW xs[i].s) xs[i].ms.length (qc ((xs[i].ms.map Dm.q).set k (xs[i].ms[k].fl f).q)) := by
    have h1 := hB.1.1
    obtain ⟨⟨a', n', c'⟩, e, h2, -⟩ := row_form h1
    rw [hs] at e h1 ⊢
    cases e
    dsimp only at h2
    rw [← h2] at h1 ⊢
    have h3 := row_set1 h1 (i := k) (by rw [List.length_map]; exact hk) (.int .i64 f)
    rw [map_nthQ hk] at h3
    exact h3
  have hHM : HM (w.setCell ⟨g, k * 4 + 1, none⟩ (.int .i64 f)) xs[i].s (xs[i].ms.set k (xs[i].ms[k].fl f)) := by
    have hnd := nd_right hB.2.2.1
    refine hB.1.upd k _ hmr ?_ (fun j hj hne g' hg' => Below.heap_setCell _ _ _ _ (fun e => nd_off hB.2.2.1 hgm (by rw [← show g' = g from e]; exact mem_flat_get hj hg')))
    exact (hB.1.2 _ (List.getElem_mem hk)).keep fun g' hg' => Below.heap_setCell _ _ _ _ (fun e => nd_off hB.2.2.1 hgm (by rw [← show g' = g from e]; exact mem_flat_get hk hg'))
  obtain ⟨r1, -⟩ := h.upd i hi ⟨xs[i].n, xs[i].v, xs[i].x, xs[i].s, xs[i].ms.set k (xs[i].ms[k].fl f)⟩ hrow hHM (by rw [hfd]; exact hB.2.2.1) (fun g' hg' => .inl (by rw [hfd] at hg'; exact hg')) hK hN
  refine ⟨r1, hK.mono fun g' hg' => .inl ?_⟩
  rcases List.mem_append.1 hg' with hg' | hg'
  · exact List.mem_append_left _ hg'
  · exact List.mem_append_right _ (mem_flat_get hi hg')
end Go.Proofs.YtejbbnpgghpgaaaGreatDoor
