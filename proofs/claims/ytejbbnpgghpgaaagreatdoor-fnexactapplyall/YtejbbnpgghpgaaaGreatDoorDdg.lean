/- What is done to a shelf: messages are moved; no conditions beyond those that each fact names. -/
import Derived.Test.YtejbbnpgghpgaaaGreatDoorDdf
import Derived.Test.YtejbbnpgghpgaaaGreatDoorMsbToBxs
namespace Go.Proofs.YtejbbnpgghpgaaaGreatDoor
open Go.RowKit List
set_option linter.unusedVariables false
theorem RdI.belowN {w w' : World} {a : Option Addr} {l : List Int} {N : Nat} (h : RdI w a l) (ha : ∀ x, a = some x → x.block < N) (hb : Below N w w') : RdI w' a l := by
 rcases h with h | ⟨b, off, e, hlt, hc⟩
 ·exact .inl h
 ·have hbN := ha _ e
  exact .inr ⟨b, off, e, Nat.lt_of_lt_of_le hlt hb.size, fun i hi => (hb.cell (p := ⟨b, off + i, none⟩) hbN).trans (hc i hi)⟩
def mvR (v : Int) (l : List Bx) (i : Nat) (us : List Int) (bn nm : ByteArray) : Rs :=
 if nm = bn then badR 9
 else if (cpR v l i us nm).1 = 0 then (0, (cpR v l i us nm).2.1, (cpR v l i us nm).2.2.1, (cpR v l i us nm).2.2.2.set i ⟨(nthX l i).n, (nthX l i).v, (nthX l i).x, (nthX l i).m.filter fun x => !hasZ us x.u⟩)
 else badR (cpR v l i us nm).1
theorem cpR_other {v : Int} {l : List Bx} {i : Nat} {us : List Int} {nm : ByteArray} (hi : i < l.length) (hn : (nthX l i).n ≠ nm) (h : (cpR v l i us nm).1 = 0) : nthX (cpR v l i us nm).2.2.2 i = nthX l i ∧ (cpR v l i us nm).2.2.2.length = l.length ∧ (cpR v l i us nm).2.2.1 = v := by
 unfold cpR at *
 split at h <;> rename_i h1
 ·exact absurd h (by decide)
 ·rw [if_neg h1]
  split at h <;> rename_i h2
  ·rw [if_pos h2]
   refine ⟨?_, by simp, rfl⟩
   rcases ixG_cases l.length (nmX l nm) with ⟨e, -⟩ | ⟨k, hk, e, hp, -⟩
   ·rw [e] at h1; exact absurd (by decide) h1
   ·rw [e]
    have hki : k ≠ i := fun e' => by subst e'; exact hn (of_decide_eq_true hp)
    show nthX (l.set (Int.toNat (k : Int)) _) i = _
    rw [Int.toNat_natCast, nthX_get (by rw [List.length_set]; exact hi), nthX_get hi, List.getElem_set_ne hki]
  ·exact absurd h (by decide)
set_option maxHeartbeats 1600000 in
set_option maxRecDepth 100000 in
theorem moveMessages_any (N gs : Nat) (v : Int) (l : List Bx) (s : SlQ) (xs : List Dx) (o : OpR) (p : SlO) (i : Nat) (w : World) (hS : Sh N w gs v l s xs) (hG : GdS v l) (hN : N ≤ w.heap.size) (hi : i < l.length) (hI : o.u.length = p.1.2.1 ∧ RdI w p.1.1 o.u) (hul : o.u.length ≤ 6) (hnm : (nthX l i).n = o.x) (hIo : ∀ x, p.1.1 = some x → x.block < N) :
  Calls Tryz.prog 164 #[.pointer (some ⟨gs, 0, none⟩), opX o p, .int .i64 (i : Int)] w fun e w' => DeEnd N gs (mvR v l i o.u o.x o.t) w e w' := by
 have hb0 : Below w.heap.size w (w.alloc (.cells #[.int .i64 o.k, .string o.x, .string o.t, slW p.1, .int .i64 o.m, .int .i64 o.f, .int .i64 o.d, slW p.2] 38)) := (Below.refl _ _).alloc (Nat.le_refl _) _
 have hQ0 := Qo.new w (.int .i64 o.k) (.string o.x) (.string o.t) (slW p.1) (.int .i64 o.m) (.int .i64 o.f) (.int .i64 o.d) (slW p.2) 38
 have hS0 := hS.below hb0 (Nat.le_refl _)
 have hI0 : o.u.length = p.1.2.1 ∧ RdI (w.alloc (.cells #[.int .i64 o.k, .string o.x, .string o.t, slW p.1, .int .i64 o.m, .int .i64 o.f, .int .i64 o.d, slW p.2] 38)) p.1.1 o.u := ⟨hI.1, hI.2.below hb0⟩
 have hbN := hb0.mono hN
 have hzN := Nat.le_trans hN hb0.size
 have HCP := copyMessages_any N gs v l s xs o p i _ hS0 hG hzN hi hI0 hul
 have hm6 := (hG.2.2 _ (nthX_mem hi)).2.1
 obtain ⟨ok, ox, ot, ou, om, of, od, ob⟩ := o
 dsimp only [opX] at HCP hQ0 hI0 hnm hul ⊢
 by_cases h1 : ot = ox
 ·have HV : Hid (mvR v l i ou ox ot = badR 9) := if_pos h1
  subst h1
  clear HCP
  go_enter Tryz.func164, Tryz.ntmps164
  go_wp2
  go_ret2
  rw [HV.out]
  exact .inl ⟨by decide, rfl, hbN⟩
 ·have h1' : (ot.toList == ox.toList) = false := by simpa using toList_ne h1
  have HVB : Hid ((cpR v l i ou ot).1 ≠ 0 → mvR v l i ou ox ot = badR (cpR v l i ou ot).1) := fun h => (if_neg h1).trans (if_neg h)
  have HVG : Hid ((cpR v l i ou ot).1 = 0 → mvR v l i ou ox ot = (0, (cpR v l i ou ot).2.1, (cpR v l i ou ot).2.2.1, (cpR v l i ou ot).2.2.2.set i ⟨(nthX l i).n, (nthX l i).v, (nthX l i).x, (nthX l i).m.filter fun x => !hasZ ou x.u⟩)) := fun h => (if_neg h1).trans (if_pos h)
  have HOT : Hid ((cpR v l i ou ot).1 = 0 → nthX (cpR v l i ou ot).2.2.2 i = nthX l i ∧ (cpR v l i ou ot).2.2.2.length = l.length ∧ (cpR v l i ou ot).2.2.1 = v) := fun h => cpR_other hi (by rw [hnm]; exact fun e => h1 e.symm) h
  generalize cpR v l i ou ot = cr at *
  generalize mvR v l i ou ox ot = rr at *
  obtain ⟨cc, cu, cv, cl⟩ := cr
  dsimp only at HVB HVG HOT
  go_enter Tryz.func164, Tryz.ntmps164
  go_wp2_with fail
  generalize w.alloc (.cells #[.int .i64 ok, .string ox, .string ot, slW p.1, .int .i64 om, .int .i64 of, .int .i64 od, slW p.2] 38) = W at *
  refine HCP.mono ?_
  rintro e W1 ⟨hE, hKW⟩
  rcases hE with ⟨hc, rfl, hb1⟩ | ⟨hc, su, s1, xs1, rfl, hu1, hS1, huo1, hb1⟩
  ·dsimp only at hc
   have HV : Hid (rr = badR cc) := HVB.out hc
   clear HVB HVG HOT HCP
   go_wp2
   go_ret2
   rw [HV.out]
   exact .inl ⟨hc, rfl, hbN.trans hb1⟩
  ·dsimp only at hc hu1 hS1
   subst hc
   have HV : Hid (_) := HVG.out (by trivial)
   obtain ⟨hoth, hll, rfl⟩ := HOT.out (by trivial)
   have hKW := hKW (by trivial)
   have hfl : ∀ k ∈ blkS s ++ fpX xs, k < w.heap.size := hS.2.1.1.lt
   have hQ1 := hQ0.of_block (hKW.block w.heap.size hQ0.lt (fun hc => absurd (hfl _ hc) (Nat.lt_irrefl _)))
   have hI1 := hI0.2.belowN hIo hb1
   have hbN1 := hbN.trans hb1
   have hzN1 : N ≤ W1.heap.size := Nat.le_trans hzN hb1.size
   obtain ⟨a, cap, rfl, hxl, hlc, hcm, ha⟩ := hS1.len
   have hic : i < cl.length := by omega
   obtain ⟨gX, rfl⟩ : ∃ gX, a = some ⟨gX, 0, none⟩ := by
    rcases ha with ⟨-, h0⟩ | h0
    ·rw [h0] at hic; simp at hic
    ·exact h0
   have hix : i < xs1.length := by omega
   have hbx : nthX cl i = xs1[i].bx := (congrArg (fun l => nthX l i) hS1.2.1.2.1.symm).trans (map_nthX hix)
   obtain ⟨d, hd⟩ : ∃ d, xs1[i] = d := ⟨_, rfl⟩
   rw [hd] at hbx
   have hmn : d.ms.length ≤ 6 := by rw [← hoth, hbx] at hm6; simpa [Dx.bx] using hm6
   have HHM0 : Hid (∀ W, CX N W (some ⟨gX, 0, none⟩, cl.length, cap) cl xs1 → HM W d.s d.ms) := fun W h => hd ▸ (h.box i hix).1
   have HROW : Hid (∀ W, CX N W (some ⟨gX, 0, none⟩, cl.length, cap) cl xs1 → W.cell? ⟨gX, i * 4 + 3, none⟩ = some (slW d.s) ∧ W.frozen? ⟨gX, i * 4 + 3, none⟩ = false) := fun W h => by
    obtain ⟨g', e, -, -, -, -, r⟩ := h.1.row_at i hix
    cases e
    rw [hd] at r
    have hr6 := h.1.1
    rw [hxl] at hr6
    exact ⟨r, hr6.frozenAt _⟩
   have HLESS : Hid (∀ (W W1 : World) (s1 : SlQ), CX N W (some ⟨gX, 0, none⟩, cl.length, cap) cl xs1 → Below W.heap.size W W1 → N ≤ W.heap.size → W1.ownsRow 0 136 4 (slW s1) ((d.ms.filter fun x => !hasZ ou x.m.u).map Dm.q).length (qc ((d.ms.filter fun x => !hasZ ou x.m.u).map Dm.q)) → (∀ k ∈ blkS s1, W.heap.size ≤ k) → _) := fun W W1 s1 h1 h2 h3 h4 h5 => h1.less i hix h2 h3 rfl d hd s1 _ List.filter_sublist h4 h5
   have HRES : Hid (⟨d.n, d.v, d.x, (d.ms.filter fun x => !hasZ ou x.m.u).map Dm.m⟩ = (⟨(nthX l i).n, (nthX l i).v, (nthX l i).x, (nthX l i).m.filter fun x => !hasZ ou x.u⟩ : Bx)) := by show _ = _; rw [← hoth, hbx, show d.bx.m = d.ms.map Dm.m from rfl, List.filter_map]; rfl
   have HTOLD : Hid (∀ (W : World) (g : Nat), HM W d.s d.ms → W.cell? ⟨g, 0, none⟩ = some (slW p.1) → RdI W p.1.1 ou → Calls Tryz.prog 193 #[slW d.s, .func (.func 217) #[] #[.pointer (some ⟨g, 0, none⟩)]] W fun e w' => PlEnd (psZ (fun k => hasZ ou (nthD d.ms k).m.u) d.ms.length) W e w') := fun W g h1 h2 h3 => told_any p.1 ou _ d.ms g W h1 (by omega) h2 hI.1 h3 (by omega)
   have HWO : Hid (∀ (W : World) (ps : SlQ), HM W d.s d.ms → OwZ 3 W ps (psZ (fun k => hasZ ou (nthD d.ms k).m.u) d.ms.length) → Calls Tryz.prog 196 #[slW d.s, slW ps] W fun e w' => WoEnd 136 ((d.ms.filter fun x => !hasZ ou x.m.u).map Dm.q) W e w') := fun W ps h1 h2 => by
    have hL3 := psZ_len (fun k => hasZ ou (nthD d.ms k).m.u) d.ms.length
    have h := withoutM_any d.s ps d.ms (psZ (fun k => hasZ ou (nthD d.ms k).m.u) d.ms.length) W h1.1 (by omega) h2 (by omega) (fun z hz => by
     obtain ⟨k, hk, rfl⟩ := List.mem_map.1 hz
     have := psN_lt hk
     omega)
    rw [lf_filter d.ms (fun d => hasZ ou d.m.u)] at h
    exact h
   have hii : (i : Int) < (cl.length : Int) := by omega
   have hopX : w.heap.size ≠ gX := fun e => by
    obtain ⟨g', e', -, r0, -⟩ := hS1.2.1.1.row_at 0 (by omega)
    cases e'
    have q := hQ1.1
    rw [e] at q
    rw [Nat.zero_mul, q] at r0
    cases r0
   have hlt1 : ∀ k ∈ blkS ((some ⟨gX, 0, none⟩, cl.length, cap) : SlQ) ++ fpX xs1, k < W1.heap.size := hS1.2.1.1.lt
   have HUO : Hid (∀ g ∈ blkS su, N ≤ g ∧ g ≠ gs ∧ g ∉ blkS ((some ⟨gX, 0, none⟩, cl.length, cap) : SlQ) ++ fpX xs1) := huo1
   clear hbx hd HVB HVG HOT HCP hKW hoth huo1 hb1 hQ0 hI0 hbN hzN
   obtain ⟨qn, qv, qx, qs, qm⟩ := d
   dsimp only at HHM0 HROW HLESS HRES HTOLD HWO hmn
   unfold maxLen at hcm
   obtain ⟨g0, g1⟩ := id hS1.1.1
   dsimp only [slW] at g0 g1
   go_wp2_with fail
   have hbD : Below W1.heap.size W1 W1.drew := (Below.refl _ _).drew
   have hS0 := hS1.below hbD (Nat.le_refl _)
   have hQ0 := hQ1.below hbD hQ1.lt
   have hU0 := hu1.below hbD (Nat.le_refl _)
   have hI0 := hI1.below hbD
   have hB0 := hbN1.trans (hbD.mono hzN1)
   have hN0 := Nat.le_trans hzN1 hbD.size
   have hz0 : W1.heap.size ≤ W1.drew.heap.size := hbD.size
   clear hbD hS1 hQ1 hu1 hI1 hbN1 g0 g1
   refine wp_region_held_drew (S := fun w' => w'.cell? ⟨w.heap.size, 3, none⟩ = some (slW p.1)) (by kernel_rfl) ?hS1 (fun hHeld => ?_)
   case hS1 => exact hQ0.2.2.2.1
   refine tk (i := 0) (v := ?_) rfl (Or.inl ⟨by rfl, ?hy2⟩) ?ty2
   case hy2 => (intro w5 hSw; go_simp; all_goals with_reducible rfl)
   simp only [Act.put, J1, J2, J4, J5, J6]
   refine tk (i := 1) (v := ?_) rfl (Or.inl ⟨by rfl, ?hy3⟩) ?ty3
   case hy3 => (intro w5 hSw; go_simp; all_goals with_reducible rfl)
   simp only [Act.put, J1, J2, J3, J4, J5, J6]
   refine tk (i := 2) (v := ?_) rfl (Or.inl ⟨by rfl, ?hy4⟩) ?ty4
   case hy4 => (intro w5 hSw; go_simp; all_goals with_reducible rfl)
   simp only [Act.put, J1, J2, J3, J4, J5, J6]
   refine tk (i := 3) (v := ?_) rfl (Or.inl ⟨by rfl, ?hy5⟩) ?ty5
   case hy5 => (intro w5 hSw; go_simp; all_goals with_reducible rfl)
   simp only [Act.put, J1, J2, J3, J4, J5, J6]
   refine tk (i := 5) (v := ?_) rfl (Or.inl ⟨by rfl, ?hy6⟩) ?ty6
   case hy6 => (intro w5 hSw; go_simp; all_goals with_reducible rfl)
   simp only [Act.put, J1, J2, J3, J4, J5, J6]
   refine tk (i := 6) (v := ?_) rfl (Or.inl ⟨by rfl, ?hy7⟩) ?ty7
   case hy7 => (intro w5 hSw; go_simp; all_goals with_reducible rfl)
   simp only [Act.put, J1, J2, J3, J4, J5, J6]
   refine tk (i := 7) (v := ?_) rfl (Or.inl ⟨by rfl, ?hy8⟩) ?ty8
   case hy8 => (intro w5 hSw; go_simp; all_goals with_reducible rfl)
   simp only [Act.put, J1, J2, J3, J4, J5, J6]
   refine tk (i := 9) (v := ?_) rfl (Or.inl ⟨by rfl, ?hy9⟩) ?ty9
   case hy9 => (intro w5 hSw; go_simp; all_goals with_reducible rfl)
   simp only [Act.put, J1, J2, J3, J4, J5, J6]
   refine tk (i := 10) (v := ?_) rfl (Or.inl ⟨by rfl, ?hy10⟩) ?ty10
   case hy10 => (intro w5 hSw; go_simp; all_goals with_reducible rfl)
   simp only [Act.put, J1, J2, J3, J4, J5, J6]
   generalize World.drew W1 = Y0 at *
   refine wpAnyH_ready (rs := [4, 8, 11]) (by kernel_rfl) (by simp) ?_
   refine AllReadyH.cons rfl (fun K hK => ?_) (AllReadyH.cons rfl (fun K hK => ?_) (AllReadyH.cons rfl (fun K hK => ?_) AllReadyH.nil))
   ·have cL := (HROW.out Y0 hS0.2.1).1
    dsimp only [slW] at cL
    go_simp
    refine hK.out _ _ hQ0.2.2.2.1 (fun hHeld => ?_)
    clear hK K
    refine wpAnyH_ready (rs := [8, 11]) (by kernel_rfl) (by simp) ?_
    refine AllReadyH.cons rfl (fun K hK => ?_) (AllReadyH.cons rfl (fun K hK => ?_) AllReadyH.nil)
    ·have cL := (HROW.out Y0 hS0.2.1).1
     dsimp only [slW] at cL
     go_simp
     refine hK.out _ _ hQ0.2.2.2.1 (fun hHeld => ?_)
     clear hK K
     refine wpAnyH_ready (rs := [11]) (by kernel_rfl) (by simp) ?_
     refine AllReadyH.cons rfl (fun K hK => ?_) AllReadyH.nil
     go_simp
     refine (isTold_any p.1 Y0).mono ?_
     rintro e Y1' ⟨rfl, rfl⟩
     have hbA : Below Y0.heap.size Y0 (Y0.alloc (.cells #[slW p.1] 25)) := (Below.refl _ _).alloc (Nat.le_refl _) _
     have hU1c : (Y0.alloc (.cells #[slW p.1] 25)).cell? ⟨Y0.heap.size, 0, none⟩ = some (slW p.1) := by simp
     have hS1 := hS0.below hbA (Nat.le_refl _)
     have hQ1 := hQ0.below hbA hQ0.lt
     have hU1 := hU0.below hbA (Nat.le_refl _)
     have hI1 := hI0.below hbA
     have hB1 := hB0.trans (hbA.mono hN0)
     have hN1 := Nat.le_trans hN0 hbA.size
     generalize Y0.alloc (.cells #[slW p.1] 25) = Y1 at *
     refine hK.out _ _ hQ1.2.2.2.1 (fun hHeld => ?_)
     clear hK K
     clear hS0 hQ0 hU0 hI0 hB0 hbA
     refine wpAnyH_ready (rs := [12]) (by kernel_rfl) (by simp) ?_
     refine AllReadyH.cons rfl (fun K hK => ?_) AllReadyH.nil
     go_simp
     refine (HTOLD.out Y1 Y0.heap.size (HHM0.out Y1 hS1.2.1) hU1c hI1).mono ?_
     rintro e Y2 ⟨sp, rfl, hO2, hge2, hb2⟩
     have hS2 := hS1.below hb2 (Nat.le_refl _)
     have hQ2 := hQ1.below hb2 hQ1.lt
     have hU2 := hU1.below hb2 (Nat.le_refl _)
     have hB2 := hB1.trans (hb2.mono hN1)
     have hN2 := Nat.le_trans hN1 hb2.size
     refine hK.out _ _ hQ2.2.2.2.1 (fun hHeld => ?_)
     clear hK K
     clear hS1 hQ1 hU1 hI1 hB1 hb2
     refine wpAnyH_ready (rs := [13]) (by kernel_rfl) (by simp) ?_
     refine AllReadyH.cons rfl (fun K hK => ?_) AllReadyH.nil
     go_simp
     refine (HWO.out Y2 sp (HHM0.out Y2 hS2.2.1) hO2).mono ?_
     rintro e Y3 ⟨s4, rfl, hr4, hge4, hb4⟩
     have hQ3 := hQ2.below hb4 hQ2.lt
     refine hK.out _ _ hQ3.2.2.2.1 (fun hHeld => ?_)
     clear hK K
     refine tk (i := 14) (v := ?_) rfl (Or.inl ⟨by rfl, ?hy11⟩) ?ty11
     case hy11 => (intro w5 hSw; go_simp; all_goals with_reducible rfl)
     simp only [Act.put, J1, J2, J3, J4, J5, J6]
     refine tk (i := 15) (v := ?_) rfl (Or.inl ⟨by rfl, ?hy12⟩) ?ty12
     case hy12 => (intro w5 hSw; go_simp; all_goals with_reducible rfl)
     simp only [Act.put, J1, J2, J3, J4, J5, J6]
     obtain ⟨cR, fR⟩ := HROW.out Y3 (hS2.2.1.below hb4 (Nat.le_refl _))
     refine wpAnyH_ready (rs := [16]) (by kernel_rfl) (by simp) ?_
     refine AllReadyH.cons rfl (fun K hK => ?_) AllReadyH.nil
     obtain ⟨hC5, hm5, hK5⟩ := HLESS.out Y2 Y3 s4 hS2.2.1 hb4 hN2 hr4 hge4
     have hS5 := hS2.turn hC5 hm5 hK5
     have hgXl := hlt1 gX (List.mem_append_left _ (by simp [blkS]))
     have hgXu : ∀ g ∈ blkS su, g ≠ gX := fun g hg e => (HUO.out g hg).2.2 (by rw [e]; exact List.mem_append_left _ (by simp [blkS]))
     have hU5 : OwZ 2 (Y3.setCell ⟨gX, i * 4 + 3, none⟩ (slW s4)) su cu := (hU2.below hb4 (Nat.le_refl _)).keep fun g hg => Below.heap_setCell _ _ _ _ (fun e => hgXu g hg e)
     have hB5 := hB2.trans (hK5.belowN hN2 hS2.2.1.2.2.2)
     have hq5 : (Y3.setCell ⟨gX, i * 4 + 3, none⟩ (slW s4)).cell? ⟨w.heap.size, 3, none⟩ = some (slW p.1) := (World.cell?_setCell_other _ _ _ _ (fun e => by injection e with e _; exact hopX e.symm)).trans hQ3.2.2.2.1
     go_simp
     generalize World.setCell Y3 ⟨gX, i * 4 + 3, none⟩ (slW s4) = Y5 at *
     refine hK.out _ _ hq5 (fun hHeld => ?_)
     clear hK K
     refine wpAnyH_done (by kernel_rfl) ?_ _
     have HE : Hid (DeEnd N gs rr w (.returned (.tuple #[slW su, .int .i64 0])) Y5) := by
      show DeEnd _ _ _ _ _ _
      rw [HV.out, ← HRES.out]
      exact .inr ⟨rfl, su, _, _, rfl, hU5, hS5, fun g hg => ⟨(HUO.out g hg).1, (HUO.out g hg).2.1, fun hc => by
       rcases hm5 g hc with h | h
       ·exact (HUO.out g hg).2.2 h
       ·have := hU2.lt g hg; omega⟩, hB5⟩
     clear hHeld hC5 hm5 hK5 hS5 hU5 hB5 hq5 hQ3 hr4
     go_wp2
     go_ret2
     exact HE.out
    ·go_simp
     refine (isTold_any p.1 Y0).mono ?_
     rintro e Y1' ⟨rfl, rfl⟩
     have hbA : Below Y0.heap.size Y0 (Y0.alloc (.cells #[slW p.1] 25)) := (Below.refl _ _).alloc (Nat.le_refl _) _
     have hU1c : (Y0.alloc (.cells #[slW p.1] 25)).cell? ⟨Y0.heap.size, 0, none⟩ = some (slW p.1) := by simp
     have hS1 := hS0.below hbA (Nat.le_refl _)
     have hQ1 := hQ0.below hbA hQ0.lt
     have hU1 := hU0.below hbA (Nat.le_refl _)
     have hI1 := hI0.below hbA
     have hB1 := hB0.trans (hbA.mono hN0)
     have hN1 := Nat.le_trans hN0 hbA.size
     generalize Y0.alloc (.cells #[slW p.1] 25) = Y1 at *
     refine hK.out _ _ hQ1.2.2.2.1 (fun hHeld => ?_)
     clear hK K
     clear hS0 hQ0 hU0 hI0 hB0 hbA
     refine wpAnyH_ready (rs := [8]) (by kernel_rfl) (by simp) ?_
     refine AllReadyH.cons rfl (fun K hK => ?_) AllReadyH.nil
     have cL := (HROW.out Y1 hS1.2.1).1
     dsimp only [slW] at cL
     go_simp
     refine hK.out _ _ hQ1.2.2.2.1 (fun hHeld => ?_)
     clear hK K
     refine wpAnyH_ready (rs := [12]) (by kernel_rfl) (by simp) ?_
     refine AllReadyH.cons rfl (fun K hK => ?_) AllReadyH.nil
     go_simp
     refine (HTOLD.out Y1 Y0.heap.size (HHM0.out Y1 hS1.2.1) hU1c hI1).mono ?_
     rintro e Y2 ⟨sp, rfl, hO2, hge2, hb2⟩
     have hS2 := hS1.below hb2 (Nat.le_refl _)
     have hQ2 := hQ1.below hb2 hQ1.lt
     have hU2 := hU1.below hb2 (Nat.le_refl _)
     have hB2 := hB1.trans (hb2.mono hN1)
     have hN2 := Nat.le_trans hN1 hb2.size
     refine hK.out _ _ hQ2.2.2.2.1 (fun hHeld => ?_)
     clear hK K
     clear hS1 hQ1 hU1 hI1 hB1 hb2
     refine wpAnyH_ready (rs := [13]) (by kernel_rfl) (by simp) ?_
     refine AllReadyH.cons rfl (fun K hK => ?_) AllReadyH.nil
     go_simp
     refine (HWO.out Y2 sp (HHM0.out Y2 hS2.2.1) hO2).mono ?_
     rintro e Y3 ⟨s4, rfl, hr4, hge4, hb4⟩
     have hQ3 := hQ2.below hb4 hQ2.lt
     refine hK.out _ _ hQ3.2.2.2.1 (fun hHeld => ?_)
     clear hK K
     refine tk (i := 14) (v := ?_) rfl (Or.inl ⟨by rfl, ?hy13⟩) ?ty13
     case hy13 => (intro w5 hSw; go_simp; all_goals with_reducible rfl)
     simp only [Act.put, J1, J2, J3, J4, J5, J6]
     refine tk (i := 15) (v := ?_) rfl (Or.inl ⟨by rfl, ?hy14⟩) ?ty14
     case hy14 => (intro w5 hSw; go_simp; all_goals with_reducible rfl)
     simp only [Act.put, J1, J2, J3, J4, J5, J6]
     obtain ⟨cR, fR⟩ := HROW.out Y3 (hS2.2.1.below hb4 (Nat.le_refl _))
     refine wpAnyH_ready (rs := [16]) (by kernel_rfl) (by simp) ?_
     refine AllReadyH.cons rfl (fun K hK => ?_) AllReadyH.nil
     obtain ⟨hC5, hm5, hK5⟩ := HLESS.out Y2 Y3 s4 hS2.2.1 hb4 hN2 hr4 hge4
     have hS5 := hS2.turn hC5 hm5 hK5
     have hgXl := hlt1 gX (List.mem_append_left _ (by simp [blkS]))
     have hgXu : ∀ g ∈ blkS su, g ≠ gX := fun g hg e => (HUO.out g hg).2.2 (by rw [e]; exact List.mem_append_left _ (by simp [blkS]))
     have hU5 : OwZ 2 (Y3.setCell ⟨gX, i * 4 + 3, none⟩ (slW s4)) su cu := (hU2.below hb4 (Nat.le_refl _)).keep fun g hg => Below.heap_setCell _ _ _ _ (fun e => hgXu g hg e)
     have hB5 := hB2.trans (hK5.belowN hN2 hS2.2.1.2.2.2)
     have hq5 : (Y3.setCell ⟨gX, i * 4 + 3, none⟩ (slW s4)).cell? ⟨w.heap.size, 3, none⟩ = some (slW p.1) := (World.cell?_setCell_other _ _ _ _ (fun e => by injection e with e _; exact hopX e.symm)).trans hQ3.2.2.2.1
     go_simp
     generalize World.setCell Y3 ⟨gX, i * 4 + 3, none⟩ (slW s4) = Y5 at *
     refine hK.out _ _ hq5 (fun hHeld => ?_)
     clear hK K
     refine wpAnyH_done (by kernel_rfl) ?_ _
     have HE : Hid (DeEnd N gs rr w (.returned (.tuple #[slW su, .int .i64 0])) Y5) := by
      show DeEnd _ _ _ _ _ _
      rw [HV.out, ← HRES.out]
      exact .inr ⟨rfl, su, _, _, rfl, hU5, hS5, fun g hg => ⟨(HUO.out g hg).1, (HUO.out g hg).2.1, fun hc => by
       rcases hm5 g hc with h | h
       ·exact (HUO.out g hg).2.2 h
       ·have := hU2.lt g hg; omega⟩, hB5⟩
     clear hHeld hC5 hm5 hK5 hS5 hU5 hB5 hq5 hQ3 hr4
     go_wp2
     go_ret2
     exact HE.out
   ·have cL := (HROW.out Y0 hS0.2.1).1
    dsimp only [slW] at cL
    go_simp
    refine hK.out _ _ hQ0.2.2.2.1 (fun hHeld => ?_)
    clear hK K
    refine wpAnyH_ready (rs := [4, 11]) (by kernel_rfl) (by simp) ?_
    refine AllReadyH.cons rfl (fun K hK => ?_) (AllReadyH.cons rfl (fun K hK => ?_) AllReadyH.nil)
    ·have cL := (HROW.out Y0 hS0.2.1).1
     dsimp only [slW] at cL
     go_simp
     refine hK.out _ _ hQ0.2.2.2.1 (fun hHeld => ?_)
     clear hK K
     refine wpAnyH_ready (rs := [11]) (by kernel_rfl) (by simp) ?_
     refine AllReadyH.cons rfl (fun K hK => ?_) AllReadyH.nil
     go_simp
     refine (isTold_any p.1 Y0).mono ?_
     rintro e Y1' ⟨rfl, rfl⟩
     have hbA : Below Y0.heap.size Y0 (Y0.alloc (.cells #[slW p.1] 25)) := (Below.refl _ _).alloc (Nat.le_refl _) _
     have hU1c : (Y0.alloc (.cells #[slW p.1] 25)).cell? ⟨Y0.heap.size, 0, none⟩ = some (slW p.1) := by simp
     have hS1 := hS0.below hbA (Nat.le_refl _)
     have hQ1 := hQ0.below hbA hQ0.lt
     have hU1 := hU0.below hbA (Nat.le_refl _)
     have hI1 := hI0.below hbA
     have hB1 := hB0.trans (hbA.mono hN0)
     have hN1 := Nat.le_trans hN0 hbA.size
     generalize Y0.alloc (.cells #[slW p.1] 25) = Y1 at *
     refine hK.out _ _ hQ1.2.2.2.1 (fun hHeld => ?_)
     clear hK K
     clear hS0 hQ0 hU0 hI0 hB0 hbA
     refine wpAnyH_ready (rs := [12]) (by kernel_rfl) (by simp) ?_
     refine AllReadyH.cons rfl (fun K hK => ?_) AllReadyH.nil
     go_simp
     refine (HTOLD.out Y1 Y0.heap.size (HHM0.out Y1 hS1.2.1) hU1c hI1).mono ?_
     rintro e Y2 ⟨sp, rfl, hO2, hge2, hb2⟩
     have hS2 := hS1.below hb2 (Nat.le_refl _)
     have hQ2 := hQ1.below hb2 hQ1.lt
     have hU2 := hU1.below hb2 (Nat.le_refl _)
     have hB2 := hB1.trans (hb2.mono hN1)
     have hN2 := Nat.le_trans hN1 hb2.size
     refine hK.out _ _ hQ2.2.2.2.1 (fun hHeld => ?_)
     clear hK K
     clear hS1 hQ1 hU1 hI1 hB1 hb2
     refine wpAnyH_ready (rs := [13]) (by kernel_rfl) (by simp) ?_
     refine AllReadyH.cons rfl (fun K hK => ?_) AllReadyH.nil
     go_simp
     refine (HWO.out Y2 sp (HHM0.out Y2 hS2.2.1) hO2).mono ?_
     rintro e Y3 ⟨s4, rfl, hr4, hge4, hb4⟩
     have hQ3 := hQ2.below hb4 hQ2.lt
     refine hK.out _ _ hQ3.2.2.2.1 (fun hHeld => ?_)
     clear hK K
     refine tk (i := 14) (v := ?_) rfl (Or.inl ⟨by rfl, ?hy15⟩) ?ty15
     case hy15 => (intro w5 hSw; go_simp; all_goals with_reducible rfl)
     simp only [Act.put, J1, J2, J3, J4, J5, J6]
     refine tk (i := 15) (v := ?_) rfl (Or.inl ⟨by rfl, ?hy16⟩) ?ty16
     case hy16 => (intro w5 hSw; go_simp; all_goals with_reducible rfl)
     simp only [Act.put, J1, J2, J3, J4, J5, J6]
     obtain ⟨cR, fR⟩ := HROW.out Y3 (hS2.2.1.below hb4 (Nat.le_refl _))
     refine wpAnyH_ready (rs := [16]) (by kernel_rfl) (by simp) ?_
     refine AllReadyH.cons rfl (fun K hK => ?_) AllReadyH.nil
     obtain ⟨hC5, hm5, hK5⟩ := HLESS.out Y2 Y3 s4 hS2.2.1 hb4 hN2 hr4 hge4
     have hS5 := hS2.turn hC5 hm5 hK5
     have hgXl := hlt1 gX (List.mem_append_left _ (by simp [blkS]))
     have hgXu : ∀ g ∈ blkS su, g ≠ gX := fun g hg e => (HUO.out g hg).2.2 (by rw [e]; exact List.mem_append_left _ (by simp [blkS]))
     have hU5 : OwZ 2 (Y3.setCell ⟨gX, i * 4 + 3, none⟩ (slW s4)) su cu := (hU2.below hb4 (Nat.le_refl _)).keep fun g hg => Below.heap_setCell _ _ _ _ (fun e => hgXu g hg e)
     have hB5 := hB2.trans (hK5.belowN hN2 hS2.2.1.2.2.2)
     have hq5 : (Y3.setCell ⟨gX, i * 4 + 3, none⟩ (slW s4)).cell? ⟨w.heap.size, 3, none⟩ = some (slW p.1) := (World.cell?_setCell_other _ _ _ _ (fun e => by injection e with e _; exact hopX e.symm)).trans hQ3.2.2.2.1
     go_simp
     generalize World.setCell Y3 ⟨gX, i * 4 + 3, none⟩ (slW s4) = Y5 at *
     refine hK.out _ _ hq5 (fun hHeld => ?_)
     clear hK K
     refine wpAnyH_done (by kernel_rfl) ?_ _
     have HE : Hid (DeEnd N gs rr w (.returned (.tuple #[slW su, .int .i64 0])) Y5) := by
      show DeEnd _ _ _ _ _ _
      rw [HV.out, ← HRES.out]
      exact .inr ⟨rfl, su, _, _, rfl, hU5, hS5, fun g hg => ⟨(HUO.out g hg).1, (HUO.out g hg).2.1, fun hc => by
       rcases hm5 g hc with h | h
       ·exact (HUO.out g hg).2.2 h
       ·have := hU2.lt g hg; omega⟩, hB5⟩
     clear hHeld hC5 hm5 hK5 hS5 hU5 hB5 hq5 hQ3 hr4
     go_wp2
     go_ret2
     exact HE.out
    ·go_simp
     refine (isTold_any p.1 Y0).mono ?_
     rintro e Y1' ⟨rfl, rfl⟩
     have hbA : Below Y0.heap.size Y0 (Y0.alloc (.cells #[slW p.1] 25)) := (Below.refl _ _).alloc (Nat.le_refl _) _
     have hU1c : (Y0.alloc (.cells #[slW p.1] 25)).cell? ⟨Y0.heap.size, 0, none⟩ = some (slW p.1) := by simp
     have hS1 := hS0.below hbA (Nat.le_refl _)
     have hQ1 := hQ0.below hbA hQ0.lt
     have hU1 := hU0.below hbA (Nat.le_refl _)
     have hI1 := hI0.below hbA
     have hB1 := hB0.trans (hbA.mono hN0)
     have hN1 := Nat.le_trans hN0 hbA.size
     generalize Y0.alloc (.cells #[slW p.1] 25) = Y1 at *
     refine hK.out _ _ hQ1.2.2.2.1 (fun hHeld => ?_)
     clear hK K
     clear hS0 hQ0 hU0 hI0 hB0 hbA
     refine wpAnyH_ready (rs := [4, 12]) (by kernel_rfl) (by simp) ?_
     refine AllReadyH.cons rfl (fun K hK => ?_) (AllReadyH.cons rfl (fun K hK => ?_) AllReadyH.nil)
     ·have cL := (HROW.out Y1 hS1.2.1).1
      dsimp only [slW] at cL
      go_simp
      refine hK.out _ _ hQ1.2.2.2.1 (fun hHeld => ?_)
      clear hK K
      refine wpAnyH_ready (rs := [12]) (by kernel_rfl) (by simp) ?_
      refine AllReadyH.cons rfl (fun K hK => ?_) AllReadyH.nil
      go_simp
      refine (HTOLD.out Y1 Y0.heap.size (HHM0.out Y1 hS1.2.1) hU1c hI1).mono ?_
      rintro e Y2 ⟨sp, rfl, hO2, hge2, hb2⟩
      have hS2 := hS1.below hb2 (Nat.le_refl _)
      have hQ2 := hQ1.below hb2 hQ1.lt
      have hU2 := hU1.below hb2 (Nat.le_refl _)
      have hB2 := hB1.trans (hb2.mono hN1)
      have hN2 := Nat.le_trans hN1 hb2.size
      refine hK.out _ _ hQ2.2.2.2.1 (fun hHeld => ?_)
      clear hK K
      clear hS1 hQ1 hU1 hI1 hB1 hb2
      refine wpAnyH_ready (rs := [13]) (by kernel_rfl) (by simp) ?_
      refine AllReadyH.cons rfl (fun K hK => ?_) AllReadyH.nil
      go_simp
      refine (HWO.out Y2 sp (HHM0.out Y2 hS2.2.1) hO2).mono ?_
      rintro e Y3 ⟨s4, rfl, hr4, hge4, hb4⟩
      have hQ3 := hQ2.below hb4 hQ2.lt
      refine hK.out _ _ hQ3.2.2.2.1 (fun hHeld => ?_)
      clear hK K
      refine tk (i := 14) (v := ?_) rfl (Or.inl ⟨by rfl, ?hy17⟩) ?ty17
      case hy17 => (intro w5 hSw; go_simp; all_goals with_reducible rfl)
      simp only [Act.put, J1, J2, J3, J4, J5, J6]
      refine tk (i := 15) (v := ?_) rfl (Or.inl ⟨by rfl, ?hy18⟩) ?ty18
      case hy18 => (intro w5 hSw; go_simp; all_goals with_reducible rfl)
      simp only [Act.put, J1, J2, J3, J4, J5, J6]
      obtain ⟨cR, fR⟩ := HROW.out Y3 (hS2.2.1.below hb4 (Nat.le_refl _))
      refine wpAnyH_ready (rs := [16]) (by kernel_rfl) (by simp) ?_
      refine AllReadyH.cons rfl (fun K hK => ?_) AllReadyH.nil
      obtain ⟨hC5, hm5, hK5⟩ := HLESS.out Y2 Y3 s4 hS2.2.1 hb4 hN2 hr4 hge4
      have hS5 := hS2.turn hC5 hm5 hK5
      have hgXl := hlt1 gX (List.mem_append_left _ (by simp [blkS]))
      have hgXu : ∀ g ∈ blkS su, g ≠ gX := fun g hg e => (HUO.out g hg).2.2 (by rw [e]; exact List.mem_append_left _ (by simp [blkS]))
      have hU5 : OwZ 2 (Y3.setCell ⟨gX, i * 4 + 3, none⟩ (slW s4)) su cu := (hU2.below hb4 (Nat.le_refl _)).keep fun g hg => Below.heap_setCell _ _ _ _ (fun e => hgXu g hg e)
      have hB5 := hB2.trans (hK5.belowN hN2 hS2.2.1.2.2.2)
      have hq5 : (Y3.setCell ⟨gX, i * 4 + 3, none⟩ (slW s4)).cell? ⟨w.heap.size, 3, none⟩ = some (slW p.1) := (World.cell?_setCell_other _ _ _ _ (fun e => by injection e with e _; exact hopX e.symm)).trans hQ3.2.2.2.1
      go_simp
      generalize World.setCell Y3 ⟨gX, i * 4 + 3, none⟩ (slW s4) = Y5 at *
      refine hK.out _ _ hq5 (fun hHeld => ?_)
      clear hK K
      refine wpAnyH_done (by kernel_rfl) ?_ _
      have HE : Hid (DeEnd N gs rr w (.returned (.tuple #[slW su, .int .i64 0])) Y5) := by
       show DeEnd _ _ _ _ _ _
       rw [HV.out, ← HRES.out]
       exact .inr ⟨rfl, su, _, _, rfl, hU5, hS5, fun g hg => ⟨(HUO.out g hg).1, (HUO.out g hg).2.1, fun hc => by
        rcases hm5 g hc with h | h
        ·exact (HUO.out g hg).2.2 h
        ·have := hU2.lt g hg; omega⟩, hB5⟩
      clear hHeld hC5 hm5 hK5 hS5 hU5 hB5 hq5 hQ3 hr4
      go_wp2
      go_ret2
      exact HE.out
     ·go_simp
      refine (HTOLD.out Y1 Y0.heap.size (HHM0.out Y1 hS1.2.1) hU1c hI1).mono ?_
      rintro e Y2 ⟨sp, rfl, hO2, hge2, hb2⟩
      have hS2 := hS1.below hb2 (Nat.le_refl _)
      have hQ2 := hQ1.below hb2 hQ1.lt
      have hU2 := hU1.below hb2 (Nat.le_refl _)
      have hB2 := hB1.trans (hb2.mono hN1)
      have hN2 := Nat.le_trans hN1 hb2.size
      refine hK.out _ _ hQ2.2.2.2.1 (fun hHeld => ?_)
      clear hK K
      clear hS1 hQ1 hU1 hI1 hB1 hb2
      refine wpAnyH_ready (rs := [4]) (by kernel_rfl) (by simp) ?_
      refine AllReadyH.cons rfl (fun K hK => ?_) AllReadyH.nil
      have cL := (HROW.out Y2 hS2.2.1).1
      dsimp only [slW] at cL
      go_simp
      refine hK.out _ _ hQ2.2.2.2.1 (fun hHeld => ?_)
      clear hK K
      refine wpAnyH_ready (rs := [13]) (by kernel_rfl) (by simp) ?_
      refine AllReadyH.cons rfl (fun K hK => ?_) AllReadyH.nil
      go_simp
      refine (HWO.out Y2 sp (HHM0.out Y2 hS2.2.1) hO2).mono ?_
      rintro e Y3 ⟨s4, rfl, hr4, hge4, hb4⟩
      have hQ3 := hQ2.below hb4 hQ2.lt
      refine hK.out _ _ hQ3.2.2.2.1 (fun hHeld => ?_)
      clear hK K
      refine tk (i := 14) (v := ?_) rfl (Or.inl ⟨by rfl, ?hy19⟩) ?ty19
      case hy19 => (intro w5 hSw; go_simp; all_goals with_reducible rfl)
      simp only [Act.put, J1, J2, J3, J4, J5, J6]
      refine tk (i := 15) (v := ?_) rfl (Or.inl ⟨by rfl, ?hy20⟩) ?ty20
      case hy20 => (intro w5 hSw; go_simp; all_goals with_reducible rfl)
      simp only [Act.put, J1, J2, J3, J4, J5, J6]
      obtain ⟨cR, fR⟩ := HROW.out Y3 (hS2.2.1.below hb4 (Nat.le_refl _))
      refine wpAnyH_ready (rs := [16]) (by kernel_rfl) (by simp) ?_
      refine AllReadyH.cons rfl (fun K hK => ?_) AllReadyH.nil
      obtain ⟨hC5, hm5, hK5⟩ := HLESS.out Y2 Y3 s4 hS2.2.1 hb4 hN2 hr4 hge4
      have hS5 := hS2.turn hC5 hm5 hK5
      have hgXl := hlt1 gX (List.mem_append_left _ (by simp [blkS]))
      have hgXu : ∀ g ∈ blkS su, g ≠ gX := fun g hg e => (HUO.out g hg).2.2 (by rw [e]; exact List.mem_append_left _ (by simp [blkS]))
      have hU5 : OwZ 2 (Y3.setCell ⟨gX, i * 4 + 3, none⟩ (slW s4)) su cu := (hU2.below hb4 (Nat.le_refl _)).keep fun g hg => Below.heap_setCell _ _ _ _ (fun e => hgXu g hg e)
      have hB5 := hB2.trans (hK5.belowN hN2 hS2.2.1.2.2.2)
      have hq5 : (Y3.setCell ⟨gX, i * 4 + 3, none⟩ (slW s4)).cell? ⟨w.heap.size, 3, none⟩ = some (slW p.1) := (World.cell?_setCell_other _ _ _ _ (fun e => by injection e with e _; exact hopX e.symm)).trans hQ3.2.2.2.1
      go_simp
      generalize World.setCell Y3 ⟨gX, i * 4 + 3, none⟩ (slW s4) = Y5 at *
      refine hK.out _ _ hq5 (fun hHeld => ?_)
      clear hK K
      refine wpAnyH_done (by kernel_rfl) ?_ _
      have HE : Hid (DeEnd N gs rr w (.returned (.tuple #[slW su, .int .i64 0])) Y5) := by
       show DeEnd _ _ _ _ _ _
       rw [HV.out, ← HRES.out]
       exact .inr ⟨rfl, su, _, _, rfl, hU5, hS5, fun g hg => ⟨(HUO.out g hg).1, (HUO.out g hg).2.1, fun hc => by
        rcases hm5 g hc with h | h
        ·exact (HUO.out g hg).2.2 h
        ·have := hU2.lt g hg; omega⟩, hB5⟩
      clear hHeld hC5 hm5 hK5 hS5 hU5 hB5 hq5 hQ3 hr4
      go_wp2
      go_ret2
      exact HE.out
   ·go_simp
    refine (isTold_any p.1 Y0).mono ?_
    rintro e Y1' ⟨rfl, rfl⟩
    have hbA : Below Y0.heap.size Y0 (Y0.alloc (.cells #[slW p.1] 25)) := (Below.refl _ _).alloc (Nat.le_refl _) _
    have hU1c : (Y0.alloc (.cells #[slW p.1] 25)).cell? ⟨Y0.heap.size, 0, none⟩ = some (slW p.1) := by simp
    have hS1 := hS0.below hbA (Nat.le_refl _)
    have hQ1 := hQ0.below hbA hQ0.lt
    have hU1 := hU0.below hbA (Nat.le_refl _)
    have hI1 := hI0.below hbA
    have hB1 := hB0.trans (hbA.mono hN0)
    have hN1 := Nat.le_trans hN0 hbA.size
    generalize Y0.alloc (.cells #[slW p.1] 25) = Y1 at *
    refine hK.out _ _ hQ1.2.2.2.1 (fun hHeld => ?_)
    clear hK K
    clear hS0 hQ0 hU0 hI0 hB0 hbA
    refine wpAnyH_ready (rs := [4, 8]) (by kernel_rfl) (by simp) ?_
    refine AllReadyH.cons rfl (fun K hK => ?_) (AllReadyH.cons rfl (fun K hK => ?_) AllReadyH.nil)
    ·have cL := (HROW.out Y1 hS1.2.1).1
     dsimp only [slW] at cL
     go_simp
     refine hK.out _ _ hQ1.2.2.2.1 (fun hHeld => ?_)
     clear hK K
     refine wpAnyH_ready (rs := [8]) (by kernel_rfl) (by simp) ?_
     refine AllReadyH.cons rfl (fun K hK => ?_) AllReadyH.nil
     have cL := (HROW.out Y1 hS1.2.1).1
     dsimp only [slW] at cL
     go_simp
     refine hK.out _ _ hQ1.2.2.2.1 (fun hHeld => ?_)
     clear hK K
     refine wpAnyH_ready (rs := [12]) (by kernel_rfl) (by simp) ?_
     refine AllReadyH.cons rfl (fun K hK => ?_) AllReadyH.nil
     go_simp
     refine (HTOLD.out Y1 Y0.heap.size (HHM0.out Y1 hS1.2.1) hU1c hI1).mono ?_
     rintro e Y2 ⟨sp, rfl, hO2, hge2, hb2⟩
     have hS2 := hS1.below hb2 (Nat.le_refl _)
     have hQ2 := hQ1.below hb2 hQ1.lt
     have hU2 := hU1.below hb2 (Nat.le_refl _)
     have hB2 := hB1.trans (hb2.mono hN1)
     have hN2 := Nat.le_trans hN1 hb2.size
     refine hK.out _ _ hQ2.2.2.2.1 (fun hHeld => ?_)
     clear hK K
     clear hS1 hQ1 hU1 hI1 hB1 hb2
     refine wpAnyH_ready (rs := [13]) (by kernel_rfl) (by simp) ?_
     refine AllReadyH.cons rfl (fun K hK => ?_) AllReadyH.nil
     go_simp
     refine (HWO.out Y2 sp (HHM0.out Y2 hS2.2.1) hO2).mono ?_
     rintro e Y3 ⟨s4, rfl, hr4, hge4, hb4⟩
     have hQ3 := hQ2.below hb4 hQ2.lt
     refine hK.out _ _ hQ3.2.2.2.1 (fun hHeld => ?_)
     clear hK K
     refine tk (i := 14) (v := ?_) rfl (Or.inl ⟨by rfl, ?hy21⟩) ?ty21
     case hy21 => (intro w5 hSw; go_simp; all_goals with_reducible rfl)
     simp only [Act.put, J1, J2, J3, J4, J5, J6]
     refine tk (i := 15) (v := ?_) rfl (Or.inl ⟨by rfl, ?hy22⟩) ?ty22
     case hy22 => (intro w5 hSw; go_simp; all_goals with_reducible rfl)
     simp only [Act.put, J1, J2, J3, J4, J5, J6]
     obtain ⟨cR, fR⟩ := HROW.out Y3 (hS2.2.1.below hb4 (Nat.le_refl _))
     refine wpAnyH_ready (rs := [16]) (by kernel_rfl) (by simp) ?_
     refine AllReadyH.cons rfl (fun K hK => ?_) AllReadyH.nil
     obtain ⟨hC5, hm5, hK5⟩ := HLESS.out Y2 Y3 s4 hS2.2.1 hb4 hN2 hr4 hge4
     have hS5 := hS2.turn hC5 hm5 hK5
     have hgXl := hlt1 gX (List.mem_append_left _ (by simp [blkS]))
     have hgXu : ∀ g ∈ blkS su, g ≠ gX := fun g hg e => (HUO.out g hg).2.2 (by rw [e]; exact List.mem_append_left _ (by simp [blkS]))
     have hU5 : OwZ 2 (Y3.setCell ⟨gX, i * 4 + 3, none⟩ (slW s4)) su cu := (hU2.below hb4 (Nat.le_refl _)).keep fun g hg => Below.heap_setCell _ _ _ _ (fun e => hgXu g hg e)
     have hB5 := hB2.trans (hK5.belowN hN2 hS2.2.1.2.2.2)
     have hq5 : (Y3.setCell ⟨gX, i * 4 + 3, none⟩ (slW s4)).cell? ⟨w.heap.size, 3, none⟩ = some (slW p.1) := (World.cell?_setCell_other _ _ _ _ (fun e => by injection e with e _; exact hopX e.symm)).trans hQ3.2.2.2.1
     go_simp
     generalize World.setCell Y3 ⟨gX, i * 4 + 3, none⟩ (slW s4) = Y5 at *
     refine hK.out _ _ hq5 (fun hHeld => ?_)
     clear hK K
     refine wpAnyH_done (by kernel_rfl) ?_ _
     have HE : Hid (DeEnd N gs rr w (.returned (.tuple #[slW su, .int .i64 0])) Y5) := by
      show DeEnd _ _ _ _ _ _
      rw [HV.out, ← HRES.out]
      exact .inr ⟨rfl, su, _, _, rfl, hU5, hS5, fun g hg => ⟨(HUO.out g hg).1, (HUO.out g hg).2.1, fun hc => by
       rcases hm5 g hc with h | h
       ·exact (HUO.out g hg).2.2 h
       ·have := hU2.lt g hg; omega⟩, hB5⟩
     clear hHeld hC5 hm5 hK5 hS5 hU5 hB5 hq5 hQ3 hr4
     go_wp2
     go_ret2
     exact HE.out
    ·have cL := (HROW.out Y1 hS1.2.1).1
     dsimp only [slW] at cL
     go_simp
     refine hK.out _ _ hQ1.2.2.2.1 (fun hHeld => ?_)
     clear hK K
     refine wpAnyH_ready (rs := [4, 12]) (by kernel_rfl) (by simp) ?_
     refine AllReadyH.cons rfl (fun K hK => ?_) (AllReadyH.cons rfl (fun K hK => ?_) AllReadyH.nil)
     ·have cL := (HROW.out Y1 hS1.2.1).1
      dsimp only [slW] at cL
      go_simp
      refine hK.out _ _ hQ1.2.2.2.1 (fun hHeld => ?_)
      clear hK K
      refine wpAnyH_ready (rs := [12]) (by kernel_rfl) (by simp) ?_
      refine AllReadyH.cons rfl (fun K hK => ?_) AllReadyH.nil
      go_simp
      refine (HTOLD.out Y1 Y0.heap.size (HHM0.out Y1 hS1.2.1) hU1c hI1).mono ?_
      rintro e Y2 ⟨sp, rfl, hO2, hge2, hb2⟩
      have hS2 := hS1.below hb2 (Nat.le_refl _)
      have hQ2 := hQ1.below hb2 hQ1.lt
      have hU2 := hU1.below hb2 (Nat.le_refl _)
      have hB2 := hB1.trans (hb2.mono hN1)
      have hN2 := Nat.le_trans hN1 hb2.size
      refine hK.out _ _ hQ2.2.2.2.1 (fun hHeld => ?_)
      clear hK K
      clear hS1 hQ1 hU1 hI1 hB1 hb2
      refine wpAnyH_ready (rs := [13]) (by kernel_rfl) (by simp) ?_
      refine AllReadyH.cons rfl (fun K hK => ?_) AllReadyH.nil
      go_simp
      refine (HWO.out Y2 sp (HHM0.out Y2 hS2.2.1) hO2).mono ?_
      rintro e Y3 ⟨s4, rfl, hr4, hge4, hb4⟩
      have hQ3 := hQ2.below hb4 hQ2.lt
      refine hK.out _ _ hQ3.2.2.2.1 (fun hHeld => ?_)
      clear hK K
      refine tk (i := 14) (v := ?_) rfl (Or.inl ⟨by rfl, ?hy23⟩) ?ty23
      case hy23 => (intro w5 hSw; go_simp; all_goals with_reducible rfl)
      simp only [Act.put, J1, J2, J3, J4, J5, J6]
      refine tk (i := 15) (v := ?_) rfl (Or.inl ⟨by rfl, ?hy24⟩) ?ty24
      case hy24 => (intro w5 hSw; go_simp; all_goals with_reducible rfl)
      simp only [Act.put, J1, J2, J3, J4, J5, J6]
      obtain ⟨cR, fR⟩ := HROW.out Y3 (hS2.2.1.below hb4 (Nat.le_refl _))
      refine wpAnyH_ready (rs := [16]) (by kernel_rfl) (by simp) ?_
      refine AllReadyH.cons rfl (fun K hK => ?_) AllReadyH.nil
      obtain ⟨hC5, hm5, hK5⟩ := HLESS.out Y2 Y3 s4 hS2.2.1 hb4 hN2 hr4 hge4
      have hS5 := hS2.turn hC5 hm5 hK5
      have hgXl := hlt1 gX (List.mem_append_left _ (by simp [blkS]))
      have hgXu : ∀ g ∈ blkS su, g ≠ gX := fun g hg e => (HUO.out g hg).2.2 (by rw [e]; exact List.mem_append_left _ (by simp [blkS]))
      have hU5 : OwZ 2 (Y3.setCell ⟨gX, i * 4 + 3, none⟩ (slW s4)) su cu := (hU2.below hb4 (Nat.le_refl _)).keep fun g hg => Below.heap_setCell _ _ _ _ (fun e => hgXu g hg e)
      have hB5 := hB2.trans (hK5.belowN hN2 hS2.2.1.2.2.2)
      have hq5 : (Y3.setCell ⟨gX, i * 4 + 3, none⟩ (slW s4)).cell? ⟨w.heap.size, 3, none⟩ = some (slW p.1) := (World.cell?_setCell_other _ _ _ _ (fun e => by injection e with e _; exact hopX e.symm)).trans hQ3.2.2.2.1
      go_simp
      generalize World.setCell Y3 ⟨gX, i * 4 + 3, none⟩ (slW s4) = Y5 at *
      refine hK.out _ _ hq5 (fun hHeld => ?_)
      clear hK K
      refine wpAnyH_done (by kernel_rfl) ?_ _
      have HE : Hid (DeEnd N gs rr w (.returned (.tuple #[slW su, .int .i64 0])) Y5) := by
       show DeEnd _ _ _ _ _ _
       rw [HV.out, ← HRES.out]
       exact .inr ⟨rfl, su, _, _, rfl, hU5, hS5, fun g hg => ⟨(HUO.out g hg).1, (HUO.out g hg).2.1, fun hc => by
        rcases hm5 g hc with h | h
        ·exact (HUO.out g hg).2.2 h
        ·have := hU2.lt g hg; omega⟩, hB5⟩
      clear hHeld hC5 hm5 hK5 hS5 hU5 hB5 hq5 hQ3 hr4
      go_wp2
      go_ret2
      exact HE.out
     ·go_simp
      refine (HTOLD.out Y1 Y0.heap.size (HHM0.out Y1 hS1.2.1) hU1c hI1).mono ?_
      rintro e Y2 ⟨sp, rfl, hO2, hge2, hb2⟩
      have hS2 := hS1.below hb2 (Nat.le_refl _)
      have hQ2 := hQ1.below hb2 hQ1.lt
      have hU2 := hU1.below hb2 (Nat.le_refl _)
      have hB2 := hB1.trans (hb2.mono hN1)
      have hN2 := Nat.le_trans hN1 hb2.size
      refine hK.out _ _ hQ2.2.2.2.1 (fun hHeld => ?_)
      clear hK K
      clear hS1 hQ1 hU1 hI1 hB1 hb2
      refine wpAnyH_ready (rs := [4]) (by kernel_rfl) (by simp) ?_
      refine AllReadyH.cons rfl (fun K hK => ?_) AllReadyH.nil
      have cL := (HROW.out Y2 hS2.2.1).1
      dsimp only [slW] at cL
      go_simp
      refine hK.out _ _ hQ2.2.2.2.1 (fun hHeld => ?_)
      clear hK K
      refine wpAnyH_ready (rs := [13]) (by kernel_rfl) (by simp) ?_
      refine AllReadyH.cons rfl (fun K hK => ?_) AllReadyH.nil
      go_simp
      refine (HWO.out Y2 sp (HHM0.out Y2 hS2.2.1) hO2).mono ?_
      rintro e Y3 ⟨s4, rfl, hr4, hge4, hb4⟩
      have hQ3 := hQ2.below hb4 hQ2.lt
      refine hK.out _ _ hQ3.2.2.2.1 (fun hHeld => ?_)
      clear hK K
      refine tk (i := 14) (v := ?_) rfl (Or.inl ⟨by rfl, ?hy25⟩) ?ty25
      case hy25 => (intro w5 hSw; go_simp; all_goals with_reducible rfl)
      simp only [Act.put, J1, J2, J3, J4, J5, J6]
      refine tk (i := 15) (v := ?_) rfl (Or.inl ⟨by rfl, ?hy26⟩) ?ty26
      case hy26 => (intro w5 hSw; go_simp; all_goals with_reducible rfl)
      simp only [Act.put, J1, J2, J3, J4, J5, J6]
      obtain ⟨cR, fR⟩ := HROW.out Y3 (hS2.2.1.below hb4 (Nat.le_refl _))
      refine wpAnyH_ready (rs := [16]) (by kernel_rfl) (by simp) ?_
      refine AllReadyH.cons rfl (fun K hK => ?_) AllReadyH.nil
      obtain ⟨hC5, hm5, hK5⟩ := HLESS.out Y2 Y3 s4 hS2.2.1 hb4 hN2 hr4 hge4
      have hS5 := hS2.turn hC5 hm5 hK5
      have hgXl := hlt1 gX (List.mem_append_left _ (by simp [blkS]))
      have hgXu : ∀ g ∈ blkS su, g ≠ gX := fun g hg e => (HUO.out g hg).2.2 (by rw [e]; exact List.mem_append_left _ (by simp [blkS]))
      have hU5 : OwZ 2 (Y3.setCell ⟨gX, i * 4 + 3, none⟩ (slW s4)) su cu := (hU2.below hb4 (Nat.le_refl _)).keep fun g hg => Below.heap_setCell _ _ _ _ (fun e => hgXu g hg e)
      have hB5 := hB2.trans (hK5.belowN hN2 hS2.2.1.2.2.2)
      have hq5 : (Y3.setCell ⟨gX, i * 4 + 3, none⟩ (slW s4)).cell? ⟨w.heap.size, 3, none⟩ = some (slW p.1) := (World.cell?_setCell_other _ _ _ _ (fun e => by injection e with e _; exact hopX e.symm)).trans hQ3.2.2.2.1
      go_simp
      generalize World.setCell Y3 ⟨gX, i * 4 + 3, none⟩ (slW s4) = Y5 at *
      refine hK.out _ _ hq5 (fun hHeld => ?_)
      clear hK K
      refine wpAnyH_done (by kernel_rfl) ?_ _
      have HE : Hid (DeEnd N gs rr w (.returned (.tuple #[slW su, .int .i64 0])) Y5) := by
       show DeEnd _ _ _ _ _ _
       rw [HV.out, ← HRES.out]
       exact .inr ⟨rfl, su, _, _, rfl, hU5, hS5, fun g hg => ⟨(HUO.out g hg).1, (HUO.out g hg).2.1, fun hc => by
        rcases hm5 g hc with h | h
        ·exact (HUO.out g hg).2.2 h
        ·have := hU2.lt g hg; omega⟩, hB5⟩
      clear hHeld hC5 hm5 hK5 hS5 hU5 hB5 hq5 hQ3 hr4
      go_wp2
      go_ret2
      exact HE.out
end Go.Proofs.YtejbbnpgghpgaaaGreatDoor
