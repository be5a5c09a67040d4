/- What is done to a shelf: messages are copied; no conditions beyond those that each fact names. -/
import Derived.Test.YtejbbnpgghpgaaaGreatDoorDde
import Derived.Test.YtejbbnpgghpgaaaGreatDoorMsbToBxs
namespace Go.Proofs.YtejbbnpgghpgaaaGreatDoor
open Go.RowKit List
set_option linter.unusedVariables false
def putsB (b : Bx) (sel : List Msg) : Bx := sel.foldl (fun b m => putB b m.f m.d m.b) b
theorem putsB_snoc (b : Bx) (l : List Msg) (m : Msg) : putsB b (l ++ [m]) = putB (putsB b l) m.f m.d m.b := by simp [putsB, List.foldl_append]
theorem putsB_x (b : Bx) (l : List Msg) : (putsB b l).x = b.x + (l.length : Int) ∧ (putsB b l).m.length = b.m.length + l.length := by
 induction l generalizing b with
 | nil => simp [putsB]
 | cons m l ih =>
  have := ih (putB b m.f m.d m.b)
  rw [show putsB b (m :: l) = putsB (putB b m.f m.d m.b) l from rfl, this.1, this.2]
  simp only [putB, List.length_append, List.length_cons, List.length_nil]
  omega
def idsZ (x : Int) (n : Nat) : List Int := (List.range n).map fun (t : Nat) => x + (t : Int)
theorem idsZ_snoc (x : Int) (n : Nat) : idsZ x (n + 1) = idsZ x n ++ [x + (n : Int)] := by unfold idsZ; rw [List.range_succ, List.map_append]; rfl
theorem idsZ_len (x : Int) (n : Nat) : (idsZ x n).length = n := by simp [idsZ]
def selM (us : List Int) (l : List Msg) : List Msg := l.filter fun x => hasZ us x.u
def cpR (v : Int) (l : List Bx) (i : Nat) (us : List Int) (nm : ByteArray) : Rs :=
 if ixG l.length (nmX l nm) < 0 then badR 4
 else if roomB (nthX l (ixG l.length (nmX l nm)).toNat).x (nthX l (ixG l.length (nmX l nm)).toNat).m.length (selM us (nthX l i).m).length = true then (0, idsZ (nthX l (ixG l.length (nmX l nm)).toNat).x (selM us (nthX l i).m).length, v, l.set (ixG l.length (nmX l nm)).toNat (putsB (nthX l (ixG l.length (nmX l nm)).toNat) (selM us (nthX l i).m))) else badR 10
theorem sel_places (us : List Int) (d : Dx) : (psN (fun k => hasZ us (nthD d.ms k).m.u) d.ms.length).map (fun k => (nthD d.ms k).m) = selM us d.bx.m := by
 have h := filt_nthD d.ms (fun d => hasZ us d.m.u)
 rw [show (fun k => (nthD d.ms k).m) = Dm.m ∘ nthD d.ms from rfl, ← List.map_map, h, show d.bx.m = d.ms.map Dm.m from rfl]
 unfold selM
 rw [List.filter_map]
 rfl
theorem nthX_set {l : List Bx} {j : Nat} (h : j < l.length) (b : Bx) : nthX (l.set j b) j = b := by rw [nthX_get (by rw [List.length_set]; exact h), List.getElem_set_self]
theorem nthE_set {l : List Dx} {j : Nat} (h : j < l.length) (b : Dx) : nthE (l.set j b) j = b := by rw [nthE_get (by rw [List.length_set]; exact h), List.getElem_set_self]
structure CS (N gs : Nat) (W wr : World) (s su ls : SlQ) (v : Int) (l : List Bx) (xs : List Dx) (j : Nat) (sel : List Msg) (qm : List Dm) (q : Nat) (dq : Dx) : Prop where
 c : CX N wr s (l.set j (putsB (nthX l j) (sel.take q))) (xs.set j dq)
 row : blkS dq.s = blkS (nthE xs j).s ∨ ∀ g ∈ blkS dq.s, W.heap.size ≤ g
 mem : ∀ g ∈ blkS s ++ fpX (xs.set j dq), g ∈ blkS s ++ fpX xs ∨ W.heap.size ≤ g
 k : Kx (blkS s ++ fpX xs) W wr
 hm : HM wr ls qm
 u : OwZ 2 wr su (idsZ (nthX l j).x q)
 uo : ∀ g ∈ blkS su, W.heap.size ≤ g ∧ g ∉ blkS s ++ fpX (xs.set j dq)
theorem CS.below {N gs : Nat} {W wr w' : World} {s su ls : SlQ} {v : Int} {l : List Bx} {xs : List Dx} {j : Nat} {sel : List Msg} {qm : List Dm} {q : Nat} {dq : Dx} (h : CS N gs W wr s su ls v l xs j sel qm q dq) (hb : Below wr.heap.size wr w') : CS N gs W w' s su ls v l xs j sel qm q dq :=
 ⟨h.c.below hb (Nat.le_refl _), h.row, h.mem, h.k.below hb, h.hm.below hb (Nat.le_refl _), h.u.below hb (Nat.le_refl _), h.uo⟩
theorem CS.put {N gs : Nat} {W wr w' : World} {s su ls : SlQ} {v : Int} {l : List Bx} {xs : List Dx} {j : Nat} {sel : List Msg} {qm : List Dm} {q : Nat} {dq : Dx} {m : Msg} {e : Ending} (h : CS N gs W wr s su ls v l xs j sel qm q dq) (hjl : j < l.length) (hjx : j < xs.length) (hq : q < sel.length) (hm : sel[q] = m)
  (hPd : PdM ((nthX l j).m.length + q) dq.s ls qm) (hE : PutEnd N s (l.set j (putsB (nthX l j) (sel.take q))) (xs.set j dq) j m.f m.d m.b wr e w') :
  e = .returned (.int .i64 ((nthX l j).x + (q : Int))) ∧ ∃ dq', CX N w' s (l.set j (putsB (nthX l j) (sel.take (q + 1)))) (xs.set j dq') ∧ (blkS dq'.s = blkS (nthE xs j).s ∨ ∀ g ∈ blkS dq'.s, W.heap.size ≤ g) ∧ (∀ g ∈ blkS s ++ fpX (xs.set j dq'), g ∈ blkS s ++ fpX xs ∨ W.heap.size ≤ g) ∧ Kx (blkS s ++ fpX xs) W w' ∧ HM w' ls qm ∧ OwZ 2 w' su (idsZ (nthX l j).x q) ∧ (∀ g ∈ blkS su, W.heap.size ≤ g ∧ g ∉ blkS s ++ fpX (xs.set j dq')) := by
 obtain ⟨d', rfl, a1, a2, a3, a4, a5⟩ := hE
 have hpx := putsB_x (nthX l j) (sel.take q)
 rw [List.length_take, Nat.min_eq_left (Nat.le_of_lt hq)] at hpx
 rw [nthX_set hjl] at a1 a4 ⊢
 rw [nthE_set hjx] at a4 a5
 rw [List.set_set, List.set_set] at a1
 rw [List.set_set] at a2
 refine ⟨by rw [hpx.1], d', ?_, ?_, ?_, ?_, ?_, ?_, ?_⟩
 ·rw [List.take_succ_eq_append_getElem hq, putsB_snoc, hm]; exact a1
 ·rcases a5 with a5 | a5
  ·rw [a5]; exact h.row
  ·exact .inr fun g hg => Nat.le_trans h.k.size (a5 g hg)
 ·intro g hg
  rcases a2 g hg with hg | hg
  ·exact h.mem g hg
  ·exact .inr (Nat.le_trans h.k.size hg)
 ·exact h.k.trans a3 h.mem
 ·exact a4 _ _ (by rw [hpx.2]; exact hPd) h.hm
 ·exact h.u.keep fun g hg => a3.block g (h.u.lt g hg) (h.uo g hg).2
 ·intro g hg
  refine ⟨(h.uo g hg).1, fun hc => ?_⟩
  rcases a2 g hc with hc | hc
  ·exact (h.uo g hg).2 hc
  ·have := h.u.lt g hg; omega
def CpEnd (N gs : Nat) (r : Rs) (fp : List Nat) (w : World) (e : Ending) (w' : World) : Prop := DeEnd N gs r w e w' ∧ (r.1 = 0 → Kx fp w w')
set_option maxHeartbeats 1600000 in
set_option maxRecDepth 100000 in
theorem copyMessages_any (N gs : Nat) (v : Int) (l : List Bx) (s : SlQ) (xs : List Dx) (o : OpR) (p : SlO) (i : Nat) (w : World) (hS : Sh N w gs v l s xs) (hG : GdS v l) (hN : N ≤ w.heap.size) (hi : i < l.length) (hI : o.u.length = p.1.2.1 ∧ RdI w p.1.1 o.u) (hul : o.u.length ≤ 6) :
  Calls Tryz.prog 163 #[.pointer (some ⟨gs, 0, none⟩), opX o p, .int .i64 (i : Int)] w fun e w' => CpEnd N gs (cpR v l i o.u o.t) (blkS s ++ fpX xs) w e w' := by
 obtain ⟨ok, ox, ot, ou, om, of, od, ob⟩ := o
 have hb0 : Below w.heap.size w (w.alloc (.cells #[.int .i64 ok, .string ox, .string ot, slW p.1, .int .i64 om, .int .i64 of, .int .i64 od, slW p.2] 38)) := (Below.refl _ _).alloc (Nat.le_refl _) _
 have hQ0 := Qo.new w (.int .i64 ok) (.string ox) (.string ot) (slW p.1) (.int .i64 om) (.int .i64 of) (.int .i64 od) (slW p.2) 38
 have hS0 := hS.below hb0 (Nat.le_refl _)
 obtain ⟨hIl, hIr⟩ := hI
 dsimp only at hIl hIr hul
 have hI0 := hIr.below hb0
 have hbN := hb0
 have hzN := Nat.le_trans hN hb0.size
 obtain ⟨a, cap, rfl, hxl, hlc, hcm, ha⟩ := hS.len
 obtain ⟨⟨hv1, hv2⟩, hl3, hGb⟩ := hG
 obtain ⟨gX, rfl⟩ : ∃ gX, a = some ⟨gX, 0, none⟩ := by
  rcases ha with ⟨-, h0⟩ | h0
  ·rw [h0] at hi; simp at hi
  ·exact h0
 have hix : i < xs.length := by omega
 have hbx : nthX l i = xs[i].bx := (congrArg (fun l => nthX l i) hS.2.1.2.1.symm).trans (map_nthX hix)
 obtain ⟨d, hd⟩ : ∃ d, xs[i] = d := ⟨_, rfl⟩
 rw [hd] at hbx
 have hmn : d.ms.length ≤ 6 := by have := (hGb _ (nthX_mem hi)).2.1; rw [hbx] at this; simpa [Dx.bx] using this
 have hmb : ∀ k, k < d.ms.length → (nthD d.ms k).m.b.length ≤ 400 := fun k hk => by
  have := (hGb _ (nthX_mem hi)).2.2
  rw [hbx] at this
  exact (this (nthD d.ms k).m (by rw [nthD_get hk]; exact List.mem_map.2 ⟨_, List.getElem_mem hk, rfl⟩)).2
 have HSEL : Hid ((psN (fun k => hasZ ou (nthD d.ms k).m.u) d.ms.length).map (fun k => (nthD d.ms k).m) = selM ou (nthX l i).m) := by show _ = _; rw [sel_places, hbx]
 have HHM : Hid (∀ W l' xs', xs'.length = xs.length → CX N W (some ⟨gX, 0, none⟩, l.length, cap) l' xs' → (∀ (h : i < xs'.length), xs'[i] = d) → HM W d.s d.ms) := fun W l' xs' hl h e => by
  have h1 := (h.box i (by omega)).1
  rw [e (by omega)] at h1
  exact h1
 have HROW : Hid (∀ W, CX N W (some ⟨gX, 0, none⟩, l.length, cap) l xs → W.cell? ⟨gX, i * 4 + 3, none⟩ = some (slW d.s)) := fun W h => by
  obtain ⟨g', e, -, -, -, -, r⟩ := h.1.row_at i hix
  cases e
  rw [hd] at r
  exact r
 have HHM0 : Hid (∀ W, CX N W (some ⟨gX, 0, none⟩, l.length, cap) l xs → HM W d.s d.ms) := fun W h => hd ▸ (h.box i hix).1
 have HDIS : Hid (∀ j, j < l.length → j ≠ i → ∀ g ∈ blkS d.s, g ∉ blkS (nthE xs j).s) := fun j hj hne g hg hc => by
  rw [nthE_get (by omega)] at hc
  exact nd_other (nd_right hS.2.1.2.2.1) hix (by omega) hne (List.mem_append_left _ hc) (by rw [hd]; exact List.mem_append_left _ hg)
 have HLTD : Hid (∀ g ∈ blkS d.s, g < w.heap.size) := fun g hg => hS.2.1.1.lt g (List.mem_append_right _ (mem_flat_get hix (by rw [hd]; exact List.mem_append_left _ hg)))
 have HBX : Hid ((nthX l i).m.length = d.ms.length) := by show _ = _; rw [hbx]; simp [Dx.bx]
 obtain ⟨sa, hms, hma⟩ : ∃ sa, d.s = (sa, d.ms.length, d.s.2.2) ∧ d.ms.length ≤ d.s.2.2 ∧ d.s.2.2 ≤ maxLen ∧ (d.ms = [] ∨ ∃ g, sa = some ⟨g, 0, none⟩) := by
  obtain ⟨ma, mcap, hms, -, hmc, hmm, hma⟩ := (hd ▸ hS0.2.1.box i hix : CM N _ d.s (d.ms.map Dm.m) d.ms).form
  rw [List.length_map] at hms hmc
  refine ⟨ma, by rw [hms], by rw [hms]; exact hmc, by rw [hms]; exact hmm, ?_⟩
  rcases hma with ⟨-, h⟩ | h
  ·exact .inl (List.map_eq_nil_iff.1 h)
  ·exact .inr h
 obtain ⟨hmc, hmm, hma⟩ := hma
 have HTOLD : Hid (∀ (W : World) (g : Nat), HM W d.s d.ms → W.cell? ⟨g, 0, none⟩ = some (slW p.1) → RdI W p.1.1 ou → Calls Tryz.prog 193 #[slW d.s, .func (.func 217) #[] #[.pointer (some ⟨g, 0, none⟩)]] W fun e w' => PlEnd (psZ (fun k => hasZ ou (nthD d.ms k).m.u) d.ms.length) W e w') := fun W g h1 h2 h3 => told_any p.1 ou _ d.ms g W h1 (by omega) h2 hIl h3 (by omega)
 have hL2 : ∀ k ∈ psN (fun k => hasZ ou (nthD d.ms k).m.u) d.ms.length, k < d.ms.length := fun k hk => psN_lt hk
 have hL3 := psN_len (fun k => hasZ ou (nthD d.ms k).m.u) d.ms.length
 have hms0 : ∀ k ∈ blkS ((some ⟨gX, 0, none⟩, l.length, cap) : SlQ) ++ fpX xs, k < w.heap.size := hS.2.1.1.lt
 have hii : (i : Int) < (l.length : Int) := by omega
 have HPO : Hid (∀ W, CX N W (some ⟨gX, 0, none⟩, l.length, cap) l xs → Calls Tryz.prog 125 #[slW (some ⟨gX, 0, none⟩, l.length, cap), .string ot] W fun e w' => e = .returned (.int .i64 (ixG l.length (nmX l ot))) ∧ Below W.heap.size W w') := fun W h => placeOf_any _ l ot W ((h.1.xs (lo := 0) (fun _ _ => Nat.zero_le _)) |> fun h' => h.2.1 ▸ h')
 have HV4 : Hid (ixG l.length (nmX l ot) < 0 → cpR v l i ou ot = badR 4) := fun h => if_pos h
 have HVR : Hid (∀ j : Nat, ixG l.length (nmX l ot) = (j : Int) → cpR v l i ou ot = if roomB (nthX l j).x (nthX l j).m.length (selM ou (nthX l i).m).length = true then (0, idsZ (nthX l j).x (selM ou (nthX l i).m).length, v, l.set j (putsB (nthX l j) (selM ou (nthX l i).m))) else badR 10) := fun j h => by
  unfold cpR
  rw [if_neg (by omega), h]
  rfl
 have HIX : Hid (0 ≤ ixG l.length (nmX l ot) → ∃ j : Nat, ixG l.length (nmX l ot) = (j : Int) ∧ j < l.length) := fun h => by
  rcases ixG_cases l.length (nmX l ot) with ⟨e, -⟩ | ⟨k, hk, e, -⟩
  ·omega
  ·exact ⟨k, e, hk⟩
 clear hbx hd
 obtain ⟨qn, qv, qx, qs, qm⟩ := d
 obtain ⟨mb, mn, mcap⟩ := qs
 dsimp only at HHM HHM0 HROW HDIS HLTD HBX HSEL HTOLD hL2 hL3 hmn hmb hms hmc hmm hma
 obtain ⟨rfl, rfl⟩ : sa = mb ∧ mn = qm.length := by injection hms with h1 h2; injection h2 with h2 h3; exact ⟨h1.symm, h2⟩
 clear hms
 unfold maxLen at hcm hmm
 obtain ⟨L, hLe⟩ : ∃ L, psN (fun k => hasZ ou (nthD qm k).m.u) qm.length = L := ⟨_, rfl⟩
 have hLz : psZ (fun k => hasZ ou (nthD qm k).m.u) qm.length = L.map (fun (k : Nat) => (k : Int)) := by unfold psZ; rw [hLe]
 rw [hLe] at HSEL hL2 hL3
 rw [hLz] at HTOLD
 clear hLe hLz
 obtain ⟨sel, hsel⟩ : ∃ sel, selM ou (nthX l i).m = sel := ⟨_, rfl⟩
 rw [hsel] at HSEL HVR
 clear hsel
 generalize ixG l.length (nmX l ot) = jx at *
 generalize cpR v l i ou ot = rr at *
 obtain ⟨d0, d1⟩ := id hS0.1.1
 dsimp only [slW] at d0 d1
 dsimp only [opX]
 go_enter Tryz.func163, Tryz.ntmps163
 go_wp2_with fail
 generalize hWe : w.alloc (.cells #[.int .i64 ok, .string ox, .string ot, slW p.1, .int .i64 om, .int .i64 of, .int .i64 od, slW p.2] 38) = W at *
 have hWz : W.heap.size = w.heap.size + 1 := by rw [← hWe]; simp
 clear hWe
 have hb1 : Below W.heap.size W W.drew := (Below.refl _ _).drew
 have hQ := hQ0.below hb1 hQ0.lt
 have hS1 := hS0.below hb1 (Nat.le_refl _)
 have hI1 := hI0.below hb1
 have hbN1 := hbN.trans (hb1.mono (by omega))
 have hzN1 := Nat.le_trans hzN hb1.size
 have hz1 : w.heap.size + 1 ≤ W.drew.heap.size := by rw [← hWz]; exact hb1.size
 clear d0 d1 hQ0 hS0 hI0 hbN hzN hb1 hb0 hWz
 refine wp_region_held_drew (S := fun w' => w'.cell? ⟨gs, 1, none⟩ = some (.slice (some ⟨gX, 0, none⟩) l.length cap) ∧ w'.cell? ⟨w.heap.size, 2, none⟩ = some (.string ot)) (by kernel_rfl) ?hS1 (fun hHeld => ?_)
 case hS1 => exact ⟨hS1.1.1.2, hQ.2.2.1⟩
 refine tk (i := 0) (v := ?_) rfl (Or.inl ⟨by rfl, ?hy2⟩) ?ty2
 case hy2 => (intro w5 hSw; obtain ⟨p0, p1⟩ := hSw; go_simp; all_goals with_reducible rfl)
 simp only [Act.put, J1, J2, J4, J5, J6]
 refine tk (i := 1) (v := ?_) rfl (Or.inl ⟨by rfl, ?hy3⟩) ?ty3
 case hy3 => (intro w5 hSw; obtain ⟨p0, p1⟩ := hSw; go_simp; all_goals with_reducible rfl)
 simp only [Act.put, J1, J2, J3, J4, J5, J6]
 refine tk (i := 2) (v := ?_) rfl (Or.inl ⟨by rfl, ?hy4⟩) ?ty4
 case hy4 => (intro w5 hSw; obtain ⟨p0, p1⟩ := hSw; go_simp; all_goals with_reducible rfl)
 simp only [Act.put, J1, J2, J3, J4, J5, J6]
 refine tk (i := 3) (v := ?_) rfl (Or.inl ⟨by rfl, ?hy5⟩) ?ty5
 case hy5 => (intro w5 hSw; obtain ⟨p0, p1⟩ := hSw; go_simp; all_goals with_reducible rfl)
 simp only [Act.put, J1, J2, J3, J4, J5, J6]
 refine tk (i := 4) (v := ?_) rfl (Or.inl ⟨by rfl, ?hy6⟩) ?ty6
 case hy6 => (intro w5 hSw; obtain ⟨p0, p1⟩ := hSw; go_simp; all_goals with_reducible rfl)
 simp only [Act.put, J1, J2, J3, J4, J5, J6]
 refine tk (i := 5) (v := ?_) rfl (Or.inl ⟨by rfl, ?hy7⟩) ?ty7
 case hy7 => (intro w5 hSw; obtain ⟨p0, p1⟩ := hSw; go_simp; all_goals with_reducible rfl)
 simp only [Act.put, J1, J2, J3, J4, J5, J6]
 generalize World.drew W = Y0 at *
 refine wpAnyH_ready (rs := [6]) (by kernel_rfl) (by simp) ?_
 refine AllReadyH.cons rfl (fun K hK => ?_) AllReadyH.nil
 go_simp
 refine (HPO.out Y0 hS1.2.1).mono ?_
 rintro e Y1 ⟨rfl, hb2⟩
 have hQ2 := hQ.below hb2 hQ.lt
 have hS2 := hS1.below hb2 (Nat.le_refl _)
 have hI2 := hI1.below hb2
 have hbN2 := hbN1.trans (hb2.mono (by omega))
 have hzN2 := Nat.le_trans hzN1 hb2.size
 have hz2 := Nat.le_trans hz1 hb2.size
 refine hK.out _ _ ⟨hS2.1.1.2, hQ2.2.2.1⟩ (fun hHeld => ?_)
 clear hK K
 clear hQ hS1 hI1 hbN1 hzN1 hz1 hb2
 refine tk (i := 7) (v := ?_) rfl (Or.inl ⟨by rfl, ?hy8⟩) ?ty8
 case hy8 => (intro w5 hSw; obtain ⟨p0, p1⟩ := hSw; go_simp; all_goals with_reducible rfl)
 simp only [Act.put, J1, J2, J3, J4, J5, J6]
 refine wpAnyH_done (by kernel_rfl) ?_ _
 clear hHeld
 by_cases hj0 : jx < 0
 ·have HV : Hid (rr = badR 4) := HV4.out hj0
  clear HV4 HVR HIX
  go_wp2
  go_ret2
  rw [HV.out]
  exact ⟨.inl ⟨by decide, rfl, hbN2.mono hN⟩, fun h => absurd h (by decide)⟩
 ·obtain ⟨j, rfl, hjl⟩ := HIX.out (by omega)
  have HV := HVR.out j rfl
  have HVH : Hid (_) := HV
  clear HV4 HVR HIX hj0 HV
  have hjx : j < xs.length := by omega
  have hji : (j : Int) < (l.length : Int) := by omega
  obtain ⟨dj, hdj⟩ : ∃ dj, nthE xs j = dj := ⟨_, rfl⟩
  have hbj : nthX l j = dj.bx := by rw [← hdj, nthE_get hjx]; exact (congrArg (fun l => nthX l j) hS2.2.1.2.1.symm).trans (map_nthX hjx)
  have hGj := hGb _ (nthX_mem hjl)
  have hjm : (nthX l j).m.length = dj.ms.length := by rw [hbj]; simp [Dx.bx]
  have hjX : (nthX l j).x = dj.x := by rw [hbj]; rfl
  have HJM : Hid ((nthX l j).m.length = dj.ms.length ∧ (nthX l j).x = dj.x) := ⟨hjm, hjX⟩
  have hjx1 : 1 ≤ dj.x ∧ dj.x ≤ 1000 := by rw [← hjX]; exact hGj.1
  have hjm6 : dj.ms.length ≤ 6 := by rw [← hjm]; exact hGj.2.1
  obtain ⟨ja, jcap, hjs, hjc⟩ : ∃ ja jcap, dj.s = (ja, dj.ms.length, jcap) ∧ dj.ms.length ≤ jcap ∧ jcap ≤ maxLen := by
   have hb := hS2.2.1.box j hjx
   rw [← nthE_get hjx, hdj] at hb
   obtain ⟨a1, a2, a3, -, a4, a5, -⟩ := hb.form
   rw [List.length_map] at a3 a4
   exact ⟨a1, a2, a3, a4, a5⟩
  obtain ⟨hjc1, hjc2⟩ := hjc
  have HRJ : Hid (∀ W, CX N W (some ⟨gX, 0, none⟩, l.length, cap) l xs → W.cell? ⟨gX, j * 4, none⟩ = some (.string dj.n) ∧ W.cell? ⟨gX, j * 4 + 1, none⟩ = some (.int .i64 dj.v) ∧ W.cell? ⟨gX, j * 4 + 2, none⟩ = some (.int .i64 dj.x) ∧ W.cell? ⟨gX, j * 4 + 3, none⟩ = some (.slice ja dj.ms.length jcap)) := fun W h => by
   obtain ⟨g', e, -, r⟩ := h.1.row_at j hjx
   cases e
   rw [← nthE_get hjx, hdj, hjs] at r
   exact r
  have HPD : Hid (∀ (q : Nat) (dq : Dx) (W : World), w.heap.size ≤ W.heap.size → (blkS dq.s = blkS (nthE xs j).s ∨ ∀ g ∈ blkS dq.s, W.heap.size ≤ g) → PdM ((nthX l j).m.length + q) dq.s (sa, qm.length, mcap) qm) := fun q dq W hW h => by
   by_cases hij : j = i
   ·subst hij
    exact .inl (by rw [HBX.out]; omega)
   ·refine .inr fun g hg hc => ?_
    rcases h with h | h
    ·rw [h] at hc; exact HDIS.out j hjl hij g hg hc
    ·have h1 := h g hc; have h2 := HLTD.out g hg; omega
  have HDJ : Hid (nthE xs j = dj) := hdj
  clear hbj hGj hjm hjX hdj hjs HDIS HLTD HBX
  unfold maxLen at hjc2
  have c3 := HROW.out Y1 hS2.2.1
  dsimp only [slW] at c3
  obtain ⟨g0, g1⟩ := id hS2.1.1
  dsimp only [slW] at g0 g1
  obtain ⟨o0, o1, o2, o3, o4, o5, o6, o7⟩ := id hQ2
  dsimp only at o0 o1 o2 o3 o4 o5 o6 o7
  have hjn : ¬ (j : Int) < 0 := by omega
  go_wp2_with fail
  refine (isTold_any p.1 Y1).mono ?_
  rintro e W1 ⟨rfl, rfl⟩
  have hb3 : Below Y1.heap.size Y1 (Y1.alloc (.cells #[slW p.1] 25)) := (Below.refl _ _).alloc (Nat.le_refl _) _
  have hU3 : (Y1.alloc (.cells #[slW p.1] 25)).cell? ⟨Y1.heap.size, 0, none⟩ = some (slW p.1) := by simp
  have hQ3 := hQ2.below hb3 hQ2.lt
  have hS3 := hS2.below hb3 (Nat.le_refl _)
  have hI3 := hI2.below hb3
  have hbN3 := hbN2.trans (hb3.mono (by omega))
  have hzN3 := Nat.le_trans hzN2 hb3.size
  have hz3 := Nat.le_trans hz2 hb3.size
  clear c3 g0 g1 o0 o1 o2 o3 o4 o5 o6 o7 hQ2 hS2 hI2 hbN2 hzN2 hz2 hb3
  go_wp2_with fail
  generalize Y1.alloc (.cells #[slW p.1] 25) = W1 at *
  refine (HTOLD.out W1 Y1.heap.size (HHM0.out W1 hS3.2.1) hU3 hI3).mono ?_
  rintro e W2 ⟨sp, rfl, hO4, hge4, hb4⟩
  obtain ⟨pa, pn, pcap⟩ := sp
  obtain ⟨hp1, hp2, hp3⟩ := hO4.form
  dsimp only at hp1 hp2 hp3
  rw [List.length_map] at hp1 hp2
  unfold maxLen at hp3
  have hpl := hp1.symm
  rw [hpl] at hp2 hL3
  have HPL : Hid (L.length = pn) := hpl
  have hsl : sel.length = pn := by have h := congrArg List.length HSEL.out; rw [List.length_map] at h; omega
  clear hp1 hpl
  have hQ4 := hQ3.below hb4 hQ3.lt
  have hS4 := hS3.below hb4 (Nat.le_refl _)
  have hbN4 := hbN3.trans (hb4.mono (by omega))
  have hzN4 := Nat.le_trans hzN3 hb4.size
  have hz4 := Nat.le_trans hz3 hb4.size
  have HR := hasRoom_any dj.n dj.v dj.x ja dj.ms.length jcap pn W2 (by omega) (by omega) (by omega)
  have hpo : ∀ k ∈ blkS ((pa, pn, pcap) : SlQ), k ∉ blkS ((some ⟨gX, 0, none⟩, l.length, cap) : SlQ) ++ fpX xs := fun k hk hc => by have h1 := hge4 k hk; have h2 := hms0 k hc; omega
  obtain ⟨b0, b1, b2, b3⟩ := HRJ.out W2 hS4.2.1
  obtain ⟨g0, g1⟩ := id hS4.1.1
  dsimp only [slW] at g0 g1
  have HVH2 : Hid (rr = if roomB dj.x dj.ms.length pn = true then (0, idsZ (nthX l j).x pn, v, l.set j (putsB (nthX l j) sel)) else badR 10) := by show _ = _; rw [HVH.out, HJM.out.1, HJM.out.2, hsl]
  clear HTOLD hS3 hI3 hU3 hQ3 hbN3 hzN3 HVH
  dsimp only [slW]
  go_wp2_with fail
  refine HR.mono ?_
  rintro e W3 ⟨rfl, hb5⟩
  have hS5 := hS4.below hb5 (Nat.le_refl _)
  have hbN5 := hbN4.trans (hb5.mono (by omega))
  have hzN5 := Nat.le_trans hzN4 hb5.size
  have hz5 := Nat.le_trans hz4 hb5.size
  have hO5 := hO4.below hb5 (Nat.le_refl _)
  clear b0 b1 b2 b3 g0 g1 hS4 hbN4 hzN4 hO4 HR
  by_cases hroom : roomB dj.x dj.ms.length pn = true
  ·rw [hroom]
   have HVT : Hid (_) := HVH2.out.trans (if_pos hroom)
   have hrm : dj.ms.length + pn ≤ 6 ∧ dj.x + (pn : Int) ≤ 1000 := of_decide_eq_true hroom
   have hCS0 : CS N gs W3 W3 (some ⟨gX, 0, none⟩, l.length, cap) (none, 0, 0) (sa, qm.length, mcap) v l xs j sel qm 0 (nthE xs j) := by
    have e1 : xs.set j (nthE xs j) = xs := by rw [nthE_get hjx]; exact List.set_getElem_self _
    have e2 : l.set j (putsB (nthX l j) (sel.take 0)) = l := by rw [List.take_zero, show putsB (nthX l j) [] = nthX l j from rfl, nthX_get hjl]; exact List.set_getElem_self _
    exact ⟨by rw [e1, e2]; exact hS5.2.1, .inl rfl, fun g hg => .inl (by rw [e1] at hg; exact hg), Kx.refl _ _, HHM0.out W3 hS5.2.1, OwZ.nil _ _, fun g hg => by simp [blkS] at hg⟩
   have hlsW : ∀ g ∈ blkS ((sa, qm.length, mcap) : SlQ) ++ fpM qm, g < W3.heap.size := (HHM0.out W3 hS5.2.1).lt
   clear HVH2 hroom HHM0 HROW
   go_wp2
   go_loopw [11, 49] (fun u y wr => ∃ (q : Nat) (su : SlQ) (dq : Dx), q ≤ pn ∧ y = .int .i64 q ∧ u = slW su ∧ CS N gs W3 wr (some ⟨gX, 0, none⟩, l.length, cap) su (sa, qm.length, mcap) v l xs j sel qm q dq) (fun _ y _ => pn - (intV y).toNat)
   case atStart => exact ⟨0, (none, 0, 0), nthE xs j, Nat.zero_le _, rfl, rfl, hCS0⟩
   case round =>
    obtain ⟨q, su, dq, hq, rfl, rfl, hC⟩ := hrel
    clear hCS0
    by_cases hqn : q < pn
    ·have hqi : (q : Int) < (pn : Int) := by omega
     have hqL : q < L.length := by have := HPL.out; omega
     have hqs : q < sel.length := by omega
     have hOp := hO5.keep (w' := wr) fun k hk => hC.k.block k (hO5.lt k hk) (hpo k hk)
     obtain ⟨pg, poff, rfl, hpgl, hpc⟩ := hOp.rd.at_ (by rw [List.length_map]; omega)
     have cp := hpc q (by rw [List.length_map]; exact hqL)
     rw [nthI_get (by rw [List.length_map]; exact hqL), List.getElem_map] at cp
     have hkq := hL2 _ (List.getElem_mem hqL)
     have hsq : sel[q] = (nthD qm L[q]).m := by
      have h := HSEL.out
      subst h
      rw [List.getElem_map]
     have hmbk := hmb _ hkq
     clear hpc
     generalize L[q] = k at *
     obtain ⟨gm, eg, -, m0, m1, m2, m3⟩ := hC.hm.row_at k hkq
     dsimp only at eg
     subst eg
     have hOB := hC.hm.2 _ (List.getElem_mem hkq)
     rw [← nthD_get hkq] at m0 m1 m2 m3 hOB
     have HCEL : Hid (∀ Y, HM Y (some ⟨gm, 0, none⟩, qm.length, mcap) qm → Y.cell? ⟨gm, k * 4, none⟩ = some (.int .i64 (nthD qm k).m.u) ∧ Y.cell? ⟨gm, k * 4 + 1, none⟩ = some (.int .i64 (nthD qm k).m.f) ∧ Y.cell? ⟨gm, k * 4 + 2, none⟩ = some (.int .i64 (nthD qm k).m.d) ∧ Y.cell? ⟨gm, k * 4 + 3, none⟩ = some (slW (nthD qm k).s)) := fun Y h => by
      obtain ⟨g', eg, -, r⟩ := h.row_at k hkq
      cases eg
      rw [← nthD_get hkq] at r
      exact r
     have hgsc := (hS5.1.block (hC.k.block gs hS5.1.lt hS5.2.2.1)).1.2
     dsimp only [slW] at hgsc
     have hki : (k : Int) < (qm.length : Int) := by omega
     have hpx := putsB_x (nthX l j) (sel.take q)
     rw [List.length_take, Nat.min_eq_left (Nat.le_of_lt hqs), HJM.out.1, HJM.out.2] at hpx
     have HPX : Hid ((putsB (nthX l j) (sel.take q)).x = dj.x + (q : Int) ∧ (putsB (nthX l j) (sel.take q)).m.length = dj.ms.length + q) := hpx
     have HGS : Hid (∀ Y, Kx (blkS ((some ⟨gX, 0, none⟩, l.length, cap) : SlQ) ++ fpX xs) W3 Y → Y.cell? ⟨gs, 1, none⟩ = some (.slice (some ⟨gX, 0, none⟩) l.length cap)) := fun Y h => (hS5.1.block (h.block gs hS5.1.lt hS5.2.2.1)).1.2
     clear hpx
     go_wp2_with fail
     have hb6 : Below wr.heap.size wr wr.drew := (Below.refl _ _).drew
     have hC6 := hC.below hb6
     have hOB6 := hOB.below hb6 (Nat.le_refl _)
     have hzN6 : N ≤ wr.drew.heap.size := Nat.le_trans hzN5 hC6.k.size
     clear hC hOB hb6 m0 m1 m2 m3 hOp hgsc
     obtain ⟨dm, hdm⟩ : ∃ dm, nthD qm k = dm := ⟨_, rfl⟩
     rw [hdm] at HCEL hsq hmbk hOB6
     clear hdm
     obtain ⟨⟨mu, mf, md, mb⟩, msd⟩ := dm
     dsimp only at HCEL hsq hmbk hOB6
     refine wp_region_held_drew (S := fun w' => w'.cell? ⟨gs, 1, none⟩ = some (.slice (some ⟨gX, 0, none⟩) l.length cap) ∧ w'.cell? ⟨gm, k * 4, none⟩ = some (.int .i64 mu) ∧ w'.cell? ⟨gm, k * 4 + 1, none⟩ = some (.int .i64 mf) ∧ w'.cell? ⟨gm, k * 4 + 2, none⟩ = some (.int .i64 md) ∧ w'.cell? ⟨gm, k * 4 + 3, none⟩ = some (slW msd)) (by kernel_rfl) ?hS9 (fun hHeld => ?_)
     case hS9 => exact ⟨HGS.out _ hC6.k, HCEL.out _ hC6.hm⟩
     refine tk (i := 0) (v := ?_) rfl (Or.inl ⟨by rfl, ?hy10⟩) ?ty10
     case hy10 => (intro w5 hSw; obtain ⟨p0, p1, p2, p3, p4⟩ := hSw; go_simp; all_goals with_reducible rfl)
     simp only [Act.put, J1, J2, J4, J5, J6]
     refine tk (i := 1) (v := ?_) rfl (Or.inl ⟨by rfl, ?hy11⟩) ?ty11
     case hy11 => (intro w5 hSw; obtain ⟨p0, p1, p2, p3, p4⟩ := hSw; go_simp; all_goals with_reducible rfl)
     simp only [Act.put, J1, J2, J3, J4, J5, J6]
     refine tk (i := 2) (v := ?_) rfl (Or.inl ⟨by rfl, ?hy12⟩) ?ty12
     case hy12 => (intro w5 hSw; obtain ⟨p0, p1, p2, p3, p4⟩ := hSw; go_simp; all_goals with_reducible rfl)
     simp only [Act.put, J1, J2, J3, J4, J5, J6]
     refine tk (i := 3) (v := ?_) rfl (Or.inl ⟨by rfl, ?hy13⟩) ?ty13
     case hy13 => (intro w5 hSw; obtain ⟨p0, p1, p2, p3, p4⟩ := hSw; go_simp; all_goals with_reducible rfl)
     simp only [Act.put, J1, J2, J3, J4, J5, J6]
     refine tk (i := 4) (v := ?_) rfl (Or.inl ⟨by rfl, ?hy14⟩) ?ty14
     case hy14 => (intro w5 hSw; obtain ⟨p0, p1, p2, p3, p4⟩ := hSw; go_simp; all_goals with_reducible rfl)
     simp only [Act.put, J1, J2, J3, J4, J5, J6]
     refine tk (i := 5) (v := ?_) rfl (Or.inl ⟨by rfl, ?hy15⟩) ?ty15
     case hy15 => (intro w5 hSw; obtain ⟨p0, p1, p2, p3, p4⟩ := hSw; go_simp; all_goals with_reducible rfl)
     simp only [Act.put, J1, J2, J3, J4, J5, J6]
     refine tk (i := 6) (v := ?_) rfl (Or.inl ⟨by rfl, ?hy16⟩) ?ty16
     case hy16 => (intro w5 hSw; obtain ⟨p0, p1, p2, p3, p4⟩ := hSw; go_simp; all_goals with_reducible rfl)
     simp only [Act.put, J1, J2, J3, J4, J5, J6]
     refine tk (i := 7) (v := ?_) rfl (Or.inl ⟨by rfl, ?hy17⟩) ?ty17
     case hy17 => (intro w5 hSw; obtain ⟨p0, p1, p2, p3, p4⟩ := hSw; go_simp; all_goals with_reducible rfl)
     simp only [Act.put, J1, J2, J3, J4, J5, J6]
     refine tk (i := 8) (v := ?_) rfl (Or.inl ⟨by rfl, ?hy18⟩) ?ty18
     case hy18 => (intro w5 hSw; obtain ⟨p0, p1, p2, p3, p4⟩ := hSw; go_simp; all_goals with_reducible rfl)
     simp only [Act.put, J1, J2, J3, J4, J5, J6]
     refine tk (i := 9) (v := ?_) rfl (Or.inl ⟨by rfl, ?hy19⟩) ?ty19
     case hy19 => (intro w5 hSw; obtain ⟨p0, p1, p2, p3, p4⟩ := hSw; go_simp; all_goals with_reducible rfl)
     simp only [Act.put, J1, J2, J3, J4, J5, J6]
     refine tk (i := 10) (v := ?_) rfl (Or.inl ⟨by rfl, ?hy20⟩) ?ty20
     case hy20 => (intro w5 hSw; obtain ⟨p0, p1, p2, p3, p4⟩ := hSw; go_simp; all_goals with_reducible rfl)
     simp only [Act.put, J1, J2, J3, J4, J5, J6]
     generalize World.drew wr = Y0 at *
     refine wpAnyH_ready (rs := [11]) (by kernel_rfl) (by simp) ?_
     refine AllReadyH.cons rfl (fun K hK => ?_) AllReadyH.nil
     go_simp
     refine (put_any N gX j (some ⟨gX, 0, none⟩, l.length, cap) _ _ mu mf md msd mb Y0 hC6.c rfl (by rw [List.length_set]; exact hjx) (hOB6.sl (lo := 0) (fun _ _ => Nat.zero_le _)) (by omega) (by rw [nthX_set hjl, HPX.out.1]; omega) (by rw [nthX_set hjl, HPX.out.2]; omega) hzN6).mono ?_
     intro e Y7 hE
     obtain ⟨rfl, dq', c7, r7, me7, k7, hm7, u7, uo7⟩ := hC6.put hjl hjx hqs hsq (HPD.out q dq W3 (by omega) hC6.row) hE
     refine hK.out _ _ ⟨HGS.out _ k7, HCEL.out _ hm7⟩ (fun hHeld => ?_)
     clear hK K
     clear hC6 hOB6 hzN6 hE
     refine wpAnyH_ready (rs := [12]) (by kernel_rfl) (by simp) ?_
     refine AllReadyH.cons rfl (fun K hK => ?_) AllReadyH.nil
     have hb8 : Below Y7.heap.size Y7 (Y7.alloc (.cells #[.int .i64 ((nthX l j).x + (q : Int))] 2)) := (Below.refl _ _).alloc (Nat.le_refl _) _
     have c8 := c7.below hb8 (Nat.le_refl _)
     have k8 := k7.below hb8
     have hm8 := hm7.below hb8 (Nat.le_refl _)
     have u8 := u7.below hb8 (Nat.le_refl _)
     have n8 : (Y7.alloc (.cells #[.int .i64 ((nthX l j).x + (q : Int))] 2)).cell? ⟨Y7.heap.size, 0, none⟩ = some (.int .i64 ((nthX l j).x + (q : Int))) := by simp
     go_simp
     generalize World.alloc Y7 (.cells #[.int .i64 ((nthX l j).x + (q : Int))] 2) = Y8 at *
     refine hK.out _ _ ⟨HGS.out _ k8, HCEL.out _ hm8⟩ (fun hHeld => ?_)
     clear hK K
     clear c7 k7 hm7 u7 hb8
     refine wpAnyH_ready (rs := [13]) (by kernel_rfl) (by simp) ?_
     refine AllReadyH.cons rfl (fun K hK => ?_) AllReadyH.nil
     refine step1 rfl _ _ 25 2 rfl Tryz.underlying25 infoZ64 su (idsZ (nthX l j).x q) (by rfl) u8 Y7.heap.size ((nthX l j).x + (q : Int)) (by rfl) n8 (by rw [idsZ_len]; omega) ?_
     intro s9 Y9 u9 hgr9 hloc9
     rw [← idsZ_snoc] at u9
     have hblk : ∀ g, g < Y8.heap.size → g ∉ blkS su → Y9.heap[g]? = Y8.heap[g]? := fun g h1 h2 => hgr9.block g h1 (fun e => h2 (mem_blkS.2 e.symm))
     have c9 : CX N Y9 (some ⟨gX, 0, none⟩, l.length, cap) (l.set j (putsB (nthX l j) (sel.take (q + 1)))) (xs.set j dq') := ⟨c8.1.keep fun g hg => hblk g (c8.1.lt g hg) (fun hc => (uo7 g hc).2 hg), c8.2⟩
     have k9 : Kx (blkS ((some ⟨gX, 0, none⟩, l.length, cap) : SlQ) ++ fpX xs) W3 Y9 := k8.grown hgr9 (fun g hg => .inr (uo7 g (mem_blkS.2 hg)).1)
     have hm9 : HM Y9 (some ⟨gm, 0, none⟩, qm.length, mcap) qm := hm8.keep fun g hg => hblk g (hm8.lt g hg) (fun hc => by have h1 := (uo7 g hc).1; have h2 := hlsW g hg; omega)
     have uo9 : ∀ g ∈ blkS s9, W3.heap.size ≤ g ∧ g ∉ blkS ((some ⟨gX, 0, none⟩, l.length, cap) : SlQ) ++ fpX (xs.set j dq') := fun g hg => by
      rcases hloc9 with e | e
      ·exact uo7 g (e ▸ hg)
      ·rw [e, List.mem_singleton] at hg; subst hg; exact ⟨k8.size, fun hc => absurd (c8.1.lt _ hc) (Nat.lt_irrefl _)⟩
     refine hK.out _ _ ⟨HGS.out _ k9, HCEL.out _ hm9⟩ (fun hHeld => ?_)
     clear hK K
     clear c8 k8 hm8 u8 n8 hgr9 hloc9 hblk uo7
     refine tk (i := 14) (v := ?_) rfl (Or.inl ⟨by rfl, ?hy21⟩) ?ty21
     case hy21 => (intro w5 hSw; obtain ⟨p0, p1, p2, p3, p4⟩ := hSw; go_simp; all_goals with_reducible rfl)
     simp only [Act.put, J1, J2, J3, J4, J5, J6]
     refine wpAnyH_done (by kernel_rfl) ?_ _
     have HC9 : Hid (CS N gs W3 Y9 (some ⟨gX, 0, none⟩, l.length, cap) s9 (some ⟨gm, 0, none⟩, qm.length, mcap) v l xs j sel qm (q + 1) dq') := ⟨c9, r7, me7, k9, hm9, u9, uo9⟩
     clear hHeld c9 r7 me7 k9 hm9 u9 uo9
     go_wp2
     go_roundw
     case rel => exact ⟨q + 1, s9, dq', by omega, by go_num, rfl, HC9.out⟩
     case measure => simp [intV, Go.RowKit.intOf]; omega
    ·have hqi : ¬ (q : Int) < (pn : Int) := by omega
     have hjt : sel.take q = sel := List.take_of_length_le (by omega)
     obtain rfl : q = pn := by omega
     have hC1 := hC.c
     rw [hjt] at hC1
     have hS6 := hS5.turn hC1 hC.mem hC.k
     have HE : Hid (CpEnd N gs rr (blkS ((some ⟨gX, 0, none⟩, l.length, cap) : SlQ) ++ fpX xs) w (.returned (.tuple #[slW su, .int .i64 0])) wr) := by
      show CpEnd _ _ _ _ _ _ _
      rw [HVT.out]
      exact ⟨.inr ⟨rfl, su, _, _, rfl, hC.u, hS6, fun g hg => ⟨by have := (hC.uo g hg).1; omega, by have := (hC.uo g hg).1; have := hS5.1.lt; omega, (hC.uo g hg).2⟩, (hbN5.mono hN).trans (hC.k.belowN hzN5 hS5.2.1.2.2.2)⟩, fun _ => (Kx.of_below hbN5).trans hC.k (fun g hg => .inl hg)⟩
     clear hC1 hS6 hC
     go_wp2
     go_ret2
     exact HE.out
  ·have hr' : roomB dj.x dj.ms.length pn = false := by simpa using hroom
   rw [hr']
   have HVT : Hid (_) := HVH2.out.trans (if_neg hroom)
   clear HVH2
   go_wp2
   go_ret2
   rw [HVT.out]
   exact ⟨.inl ⟨by decide, rfl, hbN5.mono hN⟩, fun h => absurd h (by decide)⟩
end Go.Proofs.YtejbbnpgghpgaaaGreatDoor
