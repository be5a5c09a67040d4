/- The model: messages carried; no conditions beyond those that each fact names. -/
import Derived.Test.YtejbbnpgghpgaaaGreatDoorMdcToMdd
import Derived.Test.YtejbbnpgghpgaaaGreatDoorMsbToBxs
namespace Go.Proofs.YtejbbnpgghpgaaaGreatDoor
open Go.RowKit List
set_option linter.unusedVariables false
def crR (v : Int) (l : List Bx) (i : Nat) (us : List Int) (k : Int) (bn nm : ByteArray) : Rs := if k = 6 then mvR v l i us bn nm else cpR v l i us nm
def lessB (b : Bx) (us : List Int) : Bx := ⟨b.n, b.v, b.x, b.m.filter fun x => !hasZ us x.u⟩
theorem ix_name {l : List Bx} {nm : ByteArray} {i : Nat} (h : ixG l.length (nmX l nm) = (i : Int)) : (nthX l i).n = nm := by
 rcases ixG_cases l.length (nmX l nm) with ⟨e, -⟩ | ⟨k, hk, e, hp, -⟩
 ·omega
 ·obtain rfl : k = i := by omega
  exact of_decide_eq_true hp
theorem crR_4 {v : Int} {l : List Bx} {i : Nat} {us : List Int} {k : Int} {bn nm : ByteArray} (hat : ixG l.length (nmX l bn) = (i : Int)) (h : ixG l.length (nmX l nm) < 0) : crR v l i us k bn nm = badR 4 := by
 have hc : cpR v l i us nm = badR 4 := if_pos h
 unfold crR
 split
 ·unfold mvR
  rw [if_neg (fun e => by rw [e] at h; omega), hc, if_neg (by decide)]
  rfl
 ·exact hc
theorem crR_9 {v : Int} {l : List Bx} {i : Nat} {us : List Int} {bn nm : ByteArray} (hat : ixG l.length (nmX l bn) = (i : Int)) (h : ixG l.length (nmX l nm) = (i : Int)) : crR v l i us 6 bn nm = badR 9 := by
 unfold crR
 rw [if_pos rfl]
 exact if_pos ((ix_name h).symm.trans (ix_name hat))
theorem crR_cp {v : Int} {l : List Bx} {i j : Nat} {us : List Int} {bn nm : ByteArray} (h : ixG l.length (nmX l nm) = (j : Int)) : crR v l i us 5 bn nm = if roomB (nthX l j).x (nthX l j).m.length (selM us (nthX l i).m).length = true then (0, idsZ (nthX l j).x (selM us (nthX l i).m).length, v, l.set j (putsB (nthX l j) (selM us (nthX l i).m))) else badR 10 := by
 unfold crR
 rw [if_neg (by decide)]
 unfold cpR
 rw [if_neg (by omega), h]
 rfl
theorem crR_mv {v : Int} {l : List Bx} {i j : Nat} {us : List Int} {bn nm : ByteArray} (hat : ixG l.length (nmX l bn) = (i : Int)) (h : ixG l.length (nmX l nm) = (j : Int)) (hne : j ≠ i) : crR v l i us 6 bn nm = if roomB (nthX l j).x (nthX l j).m.length (selM us (nthX l i).m).length = true then (0, idsZ (nthX l j).x (selM us (nthX l i).m).length, v, (l.set j (putsB (nthX l j) (selM us (nthX l i).m))).set i (lessB (nthX l i) us)) else badR 10 := by
 have hc : cpR v l i us nm = if roomB (nthX l j).x (nthX l j).m.length (selM us (nthX l i).m).length = true then (0, idsZ (nthX l j).x (selM us (nthX l i).m).length, v, l.set j (putsB (nthX l j) (selM us (nthX l i).m))) else badR 10 := by
  unfold cpR
  rw [if_neg (by omega), h]
  rfl
 unfold crR
 rw [if_pos rfl]
 unfold mvR
 rw [if_neg (fun e => by rw [e] at h; omega), hc]
 split
 ·rw [if_pos rfl]; rfl
 ·rw [if_neg (by decide)]; rfl
def CrEnd (N : Nat) (s : SlQ) (xs : List Dx) (r : Rs) (w : World) (e : Ending) (w' : World) : Prop :=
 (r.1 ≠ 0 ∧ e = .returned (.tuple #[.slice none 0 0, .int .i64 r.1]) ∧ Kx (blkS s ++ fpX xs) w w') ∨
 (r.1 = 0 ∧ ∃ su xs', e = .returned (.tuple #[slW su, .int .i64 0]) ∧ OwZ 2 w' su r.2.1 ∧ CX N w' s r.2.2.2 xs' ∧ (∀ g ∈ blkS su, w.heap.size ≤ g ∧ g ∉ blkS s ++ fpX xs') ∧ (∀ g ∈ blkS s ++ fpX xs', g ∈ blkS s ++ fpX xs ∨ w.heap.size ≤ g) ∧ Kx (blkS s ++ fpX xs) w w')
structure TkY (w Y : World) (gP : Nat) (so sl : SlQ) (outs left : List Dm) (d : Dx) : Prop where
 b : Below w.heap.size w Y
 p : Qw Y gP (.string d.n, .int .i64 d.v, .int .i64 d.x, slW sl)
 pg : w.heap.size ≤ gP
 o : HM Y so outs
 l : HM Y sl left
 og : ∀ g ∈ blkS so ++ fpM outs, w.heap.size ≤ g
 lg : ∀ g ∈ blkS sl ++ fpM left, w.heap.size ≤ g
 ln : (blkS sl ++ fpM left).Nodup
theorem TkY.of {w W1 W2 W4 : World} {d : Dx} {s2 so sl : SlQ} {ms2 : List Dm} {us : List Int} (hb1 : Below w.heap.size w W1) (hM2 : CM W1.heap.size W2 s2 (d.ms.map Dm.m) ms2) (hb2 : Below W1.heap.size W1 W2)
  (hb4 : Below (W2.alloc (.cells #[.string d.n, .int .i64 d.v, .int .i64 d.x, slW s2] 128)).heap.size (W2.alloc (.cells #[.string d.n, .int .i64 d.v, .int .i64 d.x, slW s2] 128)) W4)
  (hO : W4.ownsRow 0 136 4 (slW so) ((ms2.filter fun d => tkM us 0 d.m).map Dm.q).length (qc ((ms2.filter fun d => tkM us 0 d.m).map Dm.q)))
  (hL : W4.ownsRow 0 136 4 (slW sl) ((ms2.filter fun d => !tkM us 0 d.m).map Dm.q).length (qc ((ms2.filter fun d => !tkM us 0 d.m).map Dm.q)))
  (hgo : ∀ g ∈ blkS so, (W2.alloc (.cells #[.string d.n, .int .i64 d.v, .int .i64 d.x, slW s2] 128)).heap.size ≤ g) (hgl : ∀ g ∈ blkS sl, (W2.alloc (.cells #[.string d.n, .int .i64 d.v, .int .i64 d.x, slW s2] 128)).heap.size ≤ g) :
  TkY w (W4.setCell ⟨W2.heap.size, 3, none⟩ (slW sl)) W2.heap.size so sl (ms2.filter fun d => tkM us 0 d.m) (ms2.filter fun d => !tkM us 0 d.m) d := by
 have hz : (W2.alloc (.cells #[.string d.n, .int .i64 d.v, .int .i64 d.x, slW s2] 128)).heap.size = W2.heap.size + 1 := by simp
 rw [hz] at hgo hgl
 have hb3 : Below W2.heap.size W2 (W2.alloc (.cells #[.string d.n, .int .i64 d.v, .int .i64 d.x, slW s2] 128)) := (Below.refl _ _).alloc (Nat.le_refl _) _
 have hP3 := Qw.new W2 (.string d.n) (.int .i64 d.v) (.int .i64 d.x) (slW s2) 128
 have hz1 := hb1.size
 have hz2 := hb2.size
 rw [hz] at hb4
 have hb24 : Below W2.heap.size W2 (W4.setCell ⟨W2.heap.size, 3, none⟩ (slW sl)) := below_put (hb3.trans (hb4.mono (Nat.le_succ _))) W2.heap.size 3 (slW sl) (Nat.le_refl _)
 have hkeep : ∀ (s' : SlQ) (ms' : List Dm), (∀ g ∈ blkS s', W2.heap.size + 1 ≤ g) → ms'.Sublist ms2 → W4.ownsRow 0 136 4 (slW s') (ms'.map Dm.q).length (qc (ms'.map Dm.q)) → HM (W4.setCell ⟨W2.heap.size, 3, none⟩ (slW sl)) s' ms' := fun s' ms' hg hsub hr =>
  ⟨by rw [List.length_map] at hr; exact row_keep hr fun g hg' => Below.heap_setCell _ _ _ _ (fun e => by have := hg g (mem_blkS.2 hg'); rw [show g = W2.heap.size from e] at this; omega), fun d hd => (hM2.1.2 d (hsub.subset hd)).below hb24 (Nat.le_refl _)⟩
 have hdat : ∀ ms' : List Dm, ms'.Sublist ms2 → ∀ g ∈ fpM ms', W1.heap.size ≤ g ∧ g < W2.heap.size := fun ms' hsub g hg => by
  have h := List.mem_append_right (blkS s2) ((flat_sub (f := _) hsub : (fpM ms').Sublist (fpM ms2)).subset hg)
  exact ⟨hM2.2.2.2 g h, hM2.1.lt g h⟩
 have s1 : (ms2.filter fun d => tkM us 0 d.m).Sublist ms2 := List.filter_sublist
 have s2' : (ms2.filter fun d => !tkM us 0 d.m).Sublist ms2 := List.filter_sublist
 refine ⟨hb1.trans ((hb2.trans (hb24.mono hz2)).mono hz1), ((hP3.below hb4 (Nat.lt_succ_self _)).set3 (slW sl)), by omega, hkeep so _ hgo s1 hO, hkeep sl _ hgl s2' hL, ?_, ?_, ?_⟩
 ·intro g hg
  rcases List.mem_append.1 hg with hg | hg
  ·have := hgo g hg; omega
  ·have := hdat _ s1 g hg; omega
 ·intro g hg
  rcases List.mem_append.1 hg with hg | hg
  ·have := hgl g hg; omega
  ·have := hdat _ s2' g hg; omega
 ·exact nd_app (blkS_nodup _) (nd_sub (flat_sub s2') (nd_right hM2.2.2.1)) (fun g hg hc => by have h1 := hgl g hg; have h2 := hdat _ s2' g hc; omega)
set_option maxHeartbeats 3200000 in
set_option maxRecDepth 100000 in
theorem l8Carry_any (N gs B : Nat) (v : Int) (l : List Bx) (s : SlQ) (xs : List Dx) (o : OpR) (p : SlO) (i : Nat) (w : World) (hC : CX N w s l xs) (hgs : w.cell? ⟨gs, 3, none⟩ = some (slW s)) (hgo : gs ∉ blkS s ++ fpX xs) (hG : GdS v l) (hN : N ≤ w.heap.size) (hi : i < l.length) (hat : ixG l.length (nmX l o.x) = (i : Int)) (hQ : Qo w B (opQ o p)) (hBo : B ∉ blkS s ++ fpX xs) (hI : o.u.length = p.1.2.1 ∧ RdI w p.1.1 o.u) (hul : o.u.length ≤ 6) (hk : o.k = 5 ∨ o.k = 6) :
  Calls Tryz.prog 118 #[.pointer (some ⟨gs, 2, none⟩), .int .i64 (i : Int), .pointer (some ⟨B, 0, none⟩)] w fun e w' => CrEnd N s xs (crR v l i o.u o.k o.x o.t) w e w' := by
 obtain ⟨ok, ox, ot, ou, om, of, od, ob⟩ := o
 dsimp only [opQ] at hQ hI hul hat hk ⊢
 obtain ⟨hIl, hIr⟩ := hI
 obtain ⟨a, cap, rfl, hxl, hlc, hcm, ha⟩ := hC.form
 obtain ⟨hv, hl3, hGb⟩ := hG
 obtain ⟨gX, rfl⟩ : ∃ gX, a = some ⟨gX, 0, none⟩ := by
  rcases ha with ⟨-, h0⟩ | h0
  ·rw [h0] at hi; simp at hi
  ·exact h0
 have hgl : gs < w.heap.size := World.block_lt_of_cell? w ⟨gs, 3, none⟩ hgs
 have hBl := hQ.lt
 have hix : i < xs.length := by omega
 have hbx : nthX l i = xs[i].bx := (congrArg (fun l => nthX l i) hC.2.1.symm).trans (map_nthX hix)
 obtain ⟨d, hd⟩ : ∃ d, xs[i] = d := ⟨_, rfl⟩
 rw [hd] at hbx
 have hmn : d.ms.length ≤ 6 := by have := (hGb _ (nthX_mem hi)).2.1; rw [hbx] at this; simpa [Dx.bx] using this
 have hmb : ∀ m ∈ d.ms.map Dm.m, (0 ≤ m.f ∧ m.f ≤ 15) ∧ m.b.length ≤ 400 := fun m hm => by
  have := (hGb _ (nthX_mem hi)).2.2
  rw [hbx] at this
  exact this m hm
 have hfd : FtD d.ms := ⟨by omega, fun x hx => by have := (hmb x.m (List.mem_map.2 ⟨x, hx, rfl⟩)).2; omega⟩
 have HRI : Hid (∀ W, Below w.heap.size w W → W.cell? ⟨gX, i * 4, none⟩ = some (.string d.n) ∧ W.cell? ⟨gX, i * 4 + 1, none⟩ = some (.int .i64 d.v) ∧ W.cell? ⟨gX, i * 4 + 2, none⟩ = some (.int .i64 d.x) ∧ W.cell? ⟨gX, i * 4 + 3, none⟩ = some (slW d.s)) := fun W hb => by
  obtain ⟨g', e, -, r⟩ := (hC.below hb (Nat.le_refl _)).1.row_at i hix
  cases e
  rw [hd] at r
  exact r
 have HHM : Hid (∀ W, Below w.heap.size w W → HM W d.s d.ms) := fun W hb => hd ▸ ((hC.below hb (Nat.le_refl _)).box i hix).1
 have HIX : Hid (0 ≤ ixG l.length (nmX l ot) → ∃ j : Nat, ixG l.length (nmX l ot) = (j : Int) ∧ j < l.length) := fun h => by
  rcases ixG_cases l.length (nmX l ot) with ⟨e, -⟩ | ⟨k, hk, e, -⟩
  ·omega
  ·exact ⟨k, e, hk⟩
 have HV4 : Hid (ixG l.length (nmX l ot) < 0 → crR v l i ou ok ox ot = badR 4) := fun h => crR_4 hat h
 have HV9 : Hid (ok = 6 → ixG l.length (nmX l ot) = (i : Int) → crR v l i ou ok ox ot = badR 9) := fun h h2 => by rw [h]; exact crR_9 hat h2
 have HVC : Hid (∀ j : Nat, ok = 5 → ixG l.length (nmX l ot) = (j : Int) → crR v l i ou ok ox ot = if roomB (nthX l j).x (nthX l j).m.length (selM ou (nthX l i).m).length = true then (0, idsZ (nthX l j).x (selM ou (nthX l i).m).length, v, l.set j (putsB (nthX l j) (selM ou (nthX l i).m))) else badR 10) := fun j h h2 => by rw [h]; exact crR_cp h2
 have HVM : Hid (∀ j : Nat, ok = 6 → j ≠ i → ixG l.length (nmX l ot) = (j : Int) → crR v l i ou ok ox ot = if roomB (nthX l j).x (nthX l j).m.length (selM ou (nthX l i).m).length = true then (0, idsZ (nthX l j).x (selM ou (nthX l i).m).length, v, (l.set j (putsB (nthX l j) (selM ou (nthX l i).m))).set i (lessB (nthX l i) ou)) else badR 10) := fun j h hne h2 => by rw [h]; exact crR_mv hat h2 hne
 have HAT := l7At2_any l (some ⟨gX, 0, none⟩, l.length, cap) ot gs (lo := 0) w ((hC.1.xs (fun _ _ => Nat.zero_le _)) |> fun h' => hC.2.1 ▸ h') hgs hgl
 have HSEL : Hid (∀ ms2 : List Dm, ms2.map Dm.m = d.ms.map Dm.m → (ms2.filter fun d => tkM ou 0 d.m).map Dm.m = selM ou (nthX l i).m ∧ (ms2.filter fun d => !tkM ou 0 d.m).map Dm.m = (lessB (nthX l i) ou).m) := fun ms2 h => by
  have e : ∀ x ∈ ms2, tkM ou 0 x.m = hasZ ou x.m.u := fun x hx => tkM_none ou x.m (hmb x.m (h ▸ List.mem_map.2 ⟨x, hx, rfl⟩)).1
  have e2 : (nthX l i).m = ms2.map Dm.m := by rw [hbx, h]; rfl
  unfold selM lessB
  dsimp only
  rw [e2, List.filter_map, List.filter_map]
  exact ⟨congrArg _ (List.filter_congr e), congrArg _ (List.filter_congr fun x hx => by show (!tkM ou 0 x.m) = !hasZ ou x.m.u; rw [e x hx])⟩
 have HBI : Hid ((nthX l i).n = d.n ∧ (nthX l i).v = d.v ∧ (nthX l i).x = d.x ∧ (nthX l i).m = d.ms.map Dm.m) := by show _ ∧ _; rw [hbx]; exact ⟨rfl, rfl, rfl, rfl⟩
 have hii : (i : Int) < (l.length : Int) := by omega
 have hin : ¬ (i : Int) < 0 := by omega
 clear hbx hd ha
 generalize ixG l.length (nmX l ot) = jx at *
 generalize crR v l i ou ok ox ot = rr at *
 unfold maxLen at hcm
 obtain ⟨o0, o1, o2, o3, o4, o5, o6, o7⟩ := id hQ
 dsimp only at o0 o1 o2 o3 o4 o5 o6 o7
 go_enter Tryz.func118, Tryz.ntmps118
 go_wp2_with fail
 refine HAT.mono ?_
 rintro e W1 ⟨rfl, hb1⟩
 have hQ1 := hQ.below hb1 hBl
 clear HAT o0 o1 o2 o3 o4 o5 o6 o7
 obtain ⟨o0, o1, o2, o3, o4, o5, o6, o7⟩ := id hQ1
 dsimp only at o0 o1 o2 o3 o4 o5 o6 o7
 by_cases hj0 : jx < 0
 ·have HV : Hid (rr = badR 4) := HV4.out hj0
  clear HV4 HV9 HVC HVM HIX
  go_wp2
  go_ret2
  rw [HV.out]
  exact .inl ⟨by decide, rfl, Kx.of_below hb1⟩
 ·obtain ⟨j, rfl, hjl⟩ := HIX.out (by omega)
  clear HV4 HIX
  have hjx : j < xs.length := by omega
  have hji : (j : Int) < (l.length : Int) := by omega
  have hjn : ¬ (j : Int) < 0 := by omega
  rcases hk with rfl | rfl
  ·have HV : Hid (_) := HVC.out j rfl rfl
   clear HV9 HVC HVM
   obtain ⟨dj, hdj⟩ : ∃ dj, nthE xs j = dj := ⟨_, rfl⟩
   have hbj : nthX l j = dj.bx := by rw [← hdj, nthE_get hjx]; exact (congrArg (fun l => nthX l j) hC.2.1.symm).trans (map_nthX hjx)
   have hGj := hGb _ (nthX_mem hjl)
   have hjm : (nthX l j).m.length = dj.ms.length := by rw [hbj]; simp [Dx.bx]
   have hjX : (nthX l j).x = dj.x := by rw [hbj]; rfl
   have HJM : Hid ((nthX l j).m.length = dj.ms.length ∧ (nthX l j).x = dj.x) := ⟨hjm, hjX⟩
   have hjx1 : 1 ≤ dj.x ∧ dj.x ≤ 1000 := by rw [← hjX]; exact hGj.1
   have hjm6 : dj.ms.length ≤ 6 := by rw [← hjm]; exact hGj.2.1
   obtain ⟨ja, jcap, hjs, hjc1, hjc2⟩ : ∃ ja jcap, dj.s = (ja, dj.ms.length, jcap) ∧ dj.ms.length ≤ jcap ∧ jcap ≤ maxLen := by
    have hb := hC.box j hjx
    rw [← nthE_get hjx, hdj] at hb
    obtain ⟨a1, a2, a3, -, a4, a5, -⟩ := hb.form
    rw [List.length_map] at a3 a4
    exact ⟨a1, a2, a3, a4, a5⟩
   have HRJ : Hid (∀ W, Below w.heap.size w W → W.cell? ⟨gX, j * 4 + 2, none⟩ = some (.int .i64 dj.x) ∧ W.cell? ⟨gX, j * 4 + 3, none⟩ = some (.slice ja dj.ms.length jcap)) := fun W hb => by
    obtain ⟨g', e, -, r⟩ := (hC.below hb (Nat.le_refl _)).1.row_at j hjx
    cases e
    rw [← nthE_get hjx, hdj, hjs] at r
    exact ⟨r.2.2.1, r.2.2.2⟩
   clear hbj hGj hjm hjX hjs
   unfold maxLen at hjc2
   have g3 := (World.cell?_of_block (hb1.block gs hgl)).trans hgs
   dsimp only [slW] at g3
   obtain ⟨c0, c1, c2, c3⟩ := HRI.out W1 hb1
   go_wp2_with fail
   refine (l7CopyBox_any d.n d.v d.x d.s d.ms W1 (HHM.out W1 hb1) hfd).mono ?_
   rintro e W2 ⟨s2, ms2, rfl, hM2, hb2⟩
   have hw1 := hb1.size
   have hb3 : Below W2.heap.size W2 (W2.alloc (.cells #[.string d.n, .int .i64 d.v, .int .i64 d.x, slW s2] 128)) := (Below.refl _ _).alloc (Nat.le_refl _) _
   have hbw3 : Below w.heap.size w (W2.alloc (.cells #[.string d.n, .int .i64 d.v, .int .i64 d.x, slW s2] 128)) := hb1.trans ((hb2.trans (hb3.mono hb2.size)).mono hw1)
   have hP3 := Qw.new W2 (.string d.n) (.int .i64 d.v) (.int .i64 d.x) (slW s2) 128
   have hml2 : ms2.length ≤ 6 := by have h := congrArg List.length hM2.2.1; rw [List.length_map, List.length_map] at h; omega
   have HTK := l8Take_any W2.heap.size 0 s2 p.1 ms2 ou 0 (W2.alloc (.cells #[.string d.n, .int .i64 d.v, .int .i64 d.x, slW s2] 128)) (hM2.1.below hb3 (Nat.le_refl _)) (by omega) (by simp) hP3.1.2.2.2 (hP3.2 3) ⟨hIl, hIr.below hbw3⟩ (by omega)
   have hQ3 := hQ.below hbw3 hBl
   obtain ⟨W3, hW3⟩ : ∃ W3, W2.alloc (.cells #[.string d.n, .int .i64 d.v, .int .i64 d.x, slW s2] 128) = W3 := ⟨_, rfl⟩
   have o3' := hQ3.2.2.2.1
   dsimp only at o3'
   have g3' := (World.cell?_of_block (hbw3.block gs hgl)).trans hgs
   rw [hW3] at HTK hbw3
   have HW3 : Hid (_ = W3) := hW3
   clear hW3 o0 o1 o2 o3 o4 o5 o6 o7 c0 c1 c2 c3 hQ1 hQ3 hP3 g3
   go_wp2_with fail
   (try rw [HW3.out])
   skip
   refine HTK.mono ?_
   rintro e W5 ⟨so, sl, W4, rfl, rfl, hb4, hO4, hL4, hgo4, hgl4, hof4⟩
   rw [← HW3.out] at hb4 hgo4 hgl4
   have hT := TkY.of hb1 hM2 hb2 hb4 hO4 hL4 hgo4 hgl4
   obtain ⟨hsel, hless⟩ := HSEL.out ms2 hM2.2.1
   have hfm : ∀ x ∈ ms2.filter fun d => tkM ou 0 d.m, x.m.b.length ≤ 400 := fun x hx => (hmb x.m (hM2.2.1 ▸ List.mem_map.2 ⟨x, (List.mem_filter.1 hx).1, rfl⟩)).2
   have hol : (ms2.filter fun d => tkM ou 0 d.m).length ≤ 6 := Nat.le_trans (List.length_filter_le _ _) hml2
   clear hb4 hO4 hL4 hgo4 hgl4 hof4 HTK HW3 hM2 hb2 hb3 hbw3 o3' g3' HSEL hml2
   generalize (ms2.filter fun d => tkM ou 0 d.m) = outs at *
   generalize (ms2.filter fun d => !tkM ou 0 d.m) = left at *
   generalize W2.heap.size = gP at *
   rw [Nat.zero_add]
   generalize W4.setCell ⟨gP, 3, none⟩ (slW sl) = Y at *
   obtain ⟨sel, hse⟩ : ∃ sel, selM ou (nthX l i).m = sel := ⟨_, rfl⟩
   rw [hse] at hsel HV
   have hsn : sel.length = outs.length := by rw [← hsel, List.length_map]
   obtain ⟨oa, oc, rfl, hoc1, hoc2⟩ : ∃ oa oc, so = (oa, outs.length, oc) ∧ outs.length ≤ oc ∧ oc ≤ maxLen := by
    obtain ⟨⟨a', n', c'⟩, e, h1, h2, h3, -⟩ := row_form hT.o.1
    obtain ⟨b1, b2, b3⟩ := so
    cases e
    dsimp only at h1 h2 h3
    exact ⟨a', c', by rw [h1], by omega, h3⟩
   unfold maxLen at hoc2
   have HV2 : Hid (rr = if roomB dj.x dj.ms.length outs.length = true then (0, idsZ (nthX l j).x outs.length, v, l.set j (putsB (nthX l j) sel)) else badR 10) := by show _ = _; rw [HV.out, HJM.out.1, HJM.out.2, hsn]
   have HSQ : Hid (∀ q (h : q < outs.length) (h2 : q < sel.length), sel[q] = outs[q].m) := fun q h h2 => by
    have h3 := hsel
    subst h3
    rw [List.getElem_map]
   clear HV hse hsel
   have gY := (World.cell?_of_block (hT.b.block gs hgl)).trans hgs
   obtain ⟨r2, r3⟩ := HRJ.out Y hT.b
   dsimp only [slW] at gY ⊢
   have hYw := hT.b.size
   have hltx : ∀ g ∈ blkS ((some ⟨gX, 0, none⟩, l.length, cap) : SlQ) ++ fpX xs, g < w.heap.size := hC.1.lt
   have hr1 : dj.ms.length + outs.length ≤ 1000 := by omega
   have HPD : Hid (∀ (q : Nat) (dq : Dx), (blkS dq.s = blkS (nthE xs j).s ∨ ∀ g ∈ blkS dq.s, Y.heap.size ≤ g) → PdM ((nthX l j).m.length + q) dq.s (oa, outs.length, oc) outs) := fun q dq h => .inr fun g hg hc => by
    have h1 := hT.og g (List.mem_append_left _ hg)
    rcases h with h | h
    ·rw [h, nthE_get hjx] at hc
     have h2 := hltx g (List.mem_append_right _ (mem_flat_get hjx (List.mem_append_left _ hc)))
     omega
    ·have h2 := h g hc
     have h3 := hT.o.lt g (List.mem_append_left _ hg)
     omega
   clear hdj HRI HHM
   by_cases hr1 : dj.ms.length + outs.length ≤ 6
   ·have hr1' : ¬ (6 : Int) < (dj.ms.length : Int) + (outs.length : Int) := by omega
    by_cases hr2 : dj.x + (outs.length : Int) ≤ 1000
    ·have hr2' : ¬ (1000 : Int) < dj.x + (outs.length : Int) := by omega
     have HVT : Hid (_) := HV2.out.trans (if_pos (decide_eq_true ⟨hr1, hr2⟩))
     clear HV2
     have hb6 : Below Y.heap.size Y (Y.alloc (.cells #[] 2)) := (Below.refl _ _).alloc (Nat.le_refl _) _
     have hCS0 : CS N gs Y (Y.alloc (.cells #[] 2)) (some ⟨gX, 0, none⟩, l.length, cap) (some ⟨Y.heap.size, 0, none⟩, 0, 0) (oa, outs.length, oc) v l xs j sel outs 0 (nthE xs j) := by
      have e1 : xs.set j (nthE xs j) = xs := by rw [nthE_get hjx]; exact List.set_getElem_self _
      have e2 : l.set j (putsB (nthX l j) (sel.take 0)) = l := by rw [List.take_zero, show putsB (nthX l j) [] = nthX l j from rfl, nthX_get hjl]; exact List.set_getElem_self _
      exact ⟨by rw [e1, e2]; exact hC.below (hT.b.trans (hb6.mono hYw)) (Nat.le_refl _), .inl rfl, fun g hg => .inl (by rw [e1] at hg; exact hg), Kx.of_below hb6, hT.o.below hb6 (Nat.le_refl _), OwZ.lit _ _, fun g hg => by
       have hg' : g = Y.heap.size := by simpa [blkS] using hg
       refine ⟨by omega, fun hc => ?_⟩
       rw [e1] at hc
       have := hltx g hc
       omega⟩
     clear hb6
     go_wp2
     go_loopw [12, 13] (fun u y wr => ∃ (q : Nat) (su : SlQ) (dq : Dx), q ≤ outs.length ∧ y = .int .i64 q ∧ u = slW su ∧ CS N gs Y wr (some ⟨gX, 0, none⟩, l.length, cap) su (oa, outs.length, oc) v l xs j sel outs q dq) (fun _ y _ => outs.length - (intV y).toNat)
     case atStart => exact ⟨0, (some ⟨Y.heap.size, 0, none⟩, 0, 0), nthE xs j, Nat.zero_le _, rfl, rfl, hCS0⟩
     case round =>
      obtain ⟨q, su, dq, hq, rfl, rfl, hS⟩ := hrel
      clear hCS0
      by_cases hqn : q < outs.length
      ·have hqi : (q : Int) < (outs.length : Int) := by omega
       have hqs : q < sel.length := by omega
       obtain ⟨gm, eg, -, m0, m1, m2, m3⟩ := hS.hm.row_at q hqn
       dsimp only at eg
       subst eg
       have hOB := hS.hm.2 _ (List.getElem_mem hqn)
       have hsq := HSQ.out q hqn hqs
       have hmbk := hfm _ (List.getElem_mem hqn)
       have hPd := HPD.out q dq hS.row
       have hpx := putsB_x (nthX l j) (sel.take q)
       rw [List.length_take, Nat.min_eq_left (Nat.le_of_lt hqs), HJM.out.1, HJM.out.2] at hpx
       have HPX : Hid ((putsB (nthX l j) (sel.take q)).x = dj.x + (q : Int) ∧ (putsB (nthX l j) (sel.take q)).m.length = dj.ms.length + q) := hpx
       clear hpx
       obtain ⟨dm, hdm⟩ : ∃ dm, outs[q] = dm := ⟨_, rfl⟩
       rw [hdm] at m0 m1 m2 m3 hOB hsq hmbk
       clear hdm
       obtain ⟨⟨mu, mf, md, mb⟩, msd⟩ := dm
       dsimp only at m0 m1 m2 m3 hOB hsq hmbk
       have hzN : N ≤ wr.heap.size := Nat.le_trans hN (Nat.le_trans hYw hS.k.size)
       go_wp2_with fail
       refine (l8Put_any N gX j (some ⟨gX, 0, none⟩, l.length, cap) _ _ mu mf md msd mb wr hS.c rfl (by rw [List.length_set]; exact hjx) hOB (by omega) (by rw [nthX_set hjl, HPX.out.1]; omega) (by rw [nthX_set hjl, HPX.out.2]; omega) hzN).mono ?_
       intro e Y7 hE
       obtain ⟨rfl, dq', c7, r7, me7, k7, hm7, u7, uo7⟩ := hS.put hjl hjx hqs hsq hPd hE
       have hb8 : Below Y7.heap.size Y7 (Y7.alloc (.cells #[.int .i64 ((nthX l j).x + (q : Int))] 2)) := (Below.refl _ _).alloc (Nat.le_refl _) _
       have c8 := c7.below hb8 (Nat.le_refl _)
       have k8 := k7.below hb8
       have hm8 := hm7.below hb8 (Nat.le_refl _)
       have u8 := u7.below hb8 (Nat.le_refl _)
       clear hS hOB hE m0 m1 m2 m3 c7 k7 hm7 u7 hb8 HPX hPd hsq
       go_wp2_with (at_builtin; go_loud (refine app1 rfl _ _ 25 2 rfl Tryz.underlying25 infoZ64 su _ rfl u8 Y7.heap.size ((nthX l j).x + (q : Int)) rfl (by simp) (by rw [idsZ_len]; omega) ?_; intro s9 Y9 u9 hgr9 hloc9))
       rw [← idsZ_snoc] at u9
       generalize Y7.alloc (.cells #[.int .i64 ((nthX l j).x + (q : Int))] 2) = Y8 at *
       have hblk : ∀ g, g < Y8.heap.size → g ∉ blkS su → Y9.heap[g]? = Y8.heap[g]? := fun g h1 h2 => hgr9.block g h1 (fun e => h2 (mem_blkS.2 e.symm))
       have c9 : CX N Y9 (some ⟨gX, 0, none⟩, l.length, cap) (l.set j (putsB (nthX l j) (sel.take (q + 1)))) (xs.set j dq') := ⟨c8.1.keep fun g hg => hblk g (c8.1.lt g hg) (fun hc => (uo7 g hc).2 hg), c8.2⟩
       have k9 : Kx (blkS ((some ⟨gX, 0, none⟩, l.length, cap) : SlQ) ++ fpX xs) Y Y9 := k8.grown hgr9 (fun g hg => .inr (uo7 g (mem_blkS.2 hg)).1)
       have hm9 : HM Y9 (some ⟨gm, 0, none⟩, outs.length, oc) outs := hm8.keep fun g hg => hblk g (hm8.lt g hg) (fun hc => by have h1 := (uo7 g hc).1; have h2 := hT.o.lt g hg; omega)
       have uo9 : ∀ g ∈ blkS s9, Y.heap.size ≤ g ∧ g ∉ blkS ((some ⟨gX, 0, none⟩, l.length, cap) : SlQ) ++ fpX (xs.set j dq') := fun g hg => by
        rcases hloc9 with e | e
        ·exact uo7 g (e ▸ hg)
        ·rw [e, List.mem_singleton] at hg; subst hg; exact ⟨k8.size, fun hc => absurd (c8.1.lt _ hc) (Nat.lt_irrefl _)⟩
       have HC9 : Hid (CS N gs Y Y9 (some ⟨gX, 0, none⟩, l.length, cap) s9 (some ⟨gm, 0, none⟩, outs.length, oc) v l xs j sel outs (q + 1) dq') := ⟨c9, r7, me7, k9, hm9, u9, uo9⟩
       clear c8 k8 hm8 u8 hgr9 hloc9 hblk uo7 c9 r7 me7 k9 hm9 u9 uo9
       go_wp2
       go_roundw
       case rel => exact ⟨q + 1, s9, dq', by omega, by go_num, rfl, HC9.out⟩
       case measure => simp [intV, Go.RowKit.intOf]; omega
      ·have hqi : ¬ (q : Int) < (outs.length : Int) := by omega
       obtain rfl : q = outs.length := by omega
       have hjt : sel.take outs.length = sel := List.take_of_length_le (by omega)
       have hC1 := hS.c
       rw [hjt] at hC1
       have hblk : ∀ g, g < w.heap.size → g ∉ blkS ((some ⟨gX, 0, none⟩, l.length, cap) : SlQ) ++ fpX xs → wr.heap[g]? = w.heap[g]? := fun g h1 h2 => (hS.k.block g (Nat.lt_of_lt_of_le h1 hYw) h2).trans (hT.b.block g h1)
       have hkY : Kx (blkS ((some ⟨gX, 0, none⟩, l.length, cap) : SlQ) ++ fpX xs) w wr := (Kx.of_below hT.b).trans hS.k (fun g hg => .inl hg)
       have o0 := (World.cell?_of_block (hblk B hBl hBo)).trans hQ.1
       dsimp only at o0
       have HE : Hid (CrEnd N (some ⟨gX, 0, none⟩, l.length, cap) xs rr w (.returned (.tuple #[slW su, .int .i64 0])) wr) := by
        show CrEnd _ _ _ _ _ _ _
        rw [HVT.out]
        exact .inr ⟨rfl, su, _, rfl, hS.u, hC1, fun g hg => ⟨Nat.le_trans hYw (hS.uo g hg).1, (hS.uo g hg).2⟩, fun g hg => (hS.mem g hg).imp id (fun h => Nat.le_trans hYw h), hkY⟩
       clear hC1 hS
       go_wp2
       go_ret2
       exact HE.out
    ·have hr2' : (1000 : Int) < dj.x + (outs.length : Int) := by omega
     have HVT : Hid (rr = badR 10) := HV2.out.trans (if_neg (fun h => hr2 (of_decide_eq_true h).2))
     clear HV2
     go_wp2
     go_ret2
     rw [HVT.out]
     exact .inl ⟨by decide, rfl, Kx.of_below hT.b⟩
   ·have hr1' : (6 : Int) < (dj.ms.length : Int) + (outs.length : Int) := by omega
    have HVT : Hid (rr = badR 10) := HV2.out.trans (if_neg (fun h => hr1 (of_decide_eq_true h).1))
    clear HV2
    go_wp2
    go_ret2
    rw [HVT.out]
    exact .inl ⟨by decide, rfl, Kx.of_below hT.b⟩
  ·by_cases hne : j = i
   ·have HV : Hid (rr = badR 9) := HV9.out rfl (by rw [hne])
    clear HV9 HVC HVM
    subst hne
    go_wp2
    go_ret2
    rw [HV.out]
    exact .inl ⟨by decide, rfl, Kx.of_below hb1⟩
   ·have HV : Hid (_) := HVM.out j rfl hne rfl
    clear HV9 HVC HVM
    obtain ⟨dj, hdj⟩ : ∃ dj, nthE xs j = dj := ⟨_, rfl⟩
    have hbj : nthX l j = dj.bx := by rw [← hdj, nthE_get hjx]; exact (congrArg (fun l => nthX l j) hC.2.1.symm).trans (map_nthX hjx)
    have hGj := hGb _ (nthX_mem hjl)
    have hjm : (nthX l j).m.length = dj.ms.length := by rw [hbj]; simp [Dx.bx]
    have hjX : (nthX l j).x = dj.x := by rw [hbj]; rfl
    have HJM : Hid ((nthX l j).m.length = dj.ms.length ∧ (nthX l j).x = dj.x) := ⟨hjm, hjX⟩
    have hjx1 : 1 ≤ dj.x ∧ dj.x ≤ 1000 := by rw [← hjX]; exact hGj.1
    have hjm6 : dj.ms.length ≤ 6 := by rw [← hjm]; exact hGj.2.1
    obtain ⟨ja, jcap, hjs, hjc1, hjc2⟩ : ∃ ja jcap, dj.s = (ja, dj.ms.length, jcap) ∧ dj.ms.length ≤ jcap ∧ jcap ≤ maxLen := by
     have hb := hC.box j hjx
     rw [← nthE_get hjx, hdj] at hb
     obtain ⟨a1, a2, a3, -, a4, a5, -⟩ := hb.form
     rw [List.length_map] at a3 a4
     exact ⟨a1, a2, a3, a4, a5⟩
    have HRJ : Hid (∀ W, Below w.heap.size w W → W.cell? ⟨gX, j * 4 + 2, none⟩ = some (.int .i64 dj.x) ∧ W.cell? ⟨gX, j * 4 + 3, none⟩ = some (.slice ja dj.ms.length jcap)) := fun W hb => by
     obtain ⟨g', e, -, r⟩ := (hC.below hb (Nat.le_refl _)).1.row_at j hjx
     cases e
     rw [← nthE_get hjx, hdj, hjs] at r
     exact ⟨r.2.2.1, r.2.2.2⟩
    clear hbj hGj hjm hjX hjs
    unfold maxLen at hjc2
    have g3 := (World.cell?_of_block (hb1.block gs hgl)).trans hgs
    dsimp only [slW] at g3
    obtain ⟨c0, c1, c2, c3⟩ := HRI.out W1 hb1
    go_wp2_with fail
    refine (l7CopyBox_any d.n d.v d.x d.s d.ms W1 (HHM.out W1 hb1) hfd).mono ?_
    rintro e W2 ⟨s2, ms2, rfl, hM2, hb2⟩
    have hw1 := hb1.size
    have hb3 : Below W2.heap.size W2 (W2.alloc (.cells #[.string d.n, .int .i64 d.v, .int .i64 d.x, slW s2] 128)) := (Below.refl _ _).alloc (Nat.le_refl _) _
    have hbw3 : Below w.heap.size w (W2.alloc (.cells #[.string d.n, .int .i64 d.v, .int .i64 d.x, slW s2] 128)) := hb1.trans ((hb2.trans (hb3.mono hb2.size)).mono hw1)
    have hP3 := Qw.new W2 (.string d.n) (.int .i64 d.v) (.int .i64 d.x) (slW s2) 128
    have hml2 : ms2.length ≤ 6 := by have h := congrArg List.length hM2.2.1; rw [List.length_map, List.length_map] at h; omega
    have HTK := l8Take_any W2.heap.size 0 s2 p.1 ms2 ou 0 (W2.alloc (.cells #[.string d.n, .int .i64 d.v, .int .i64 d.x, slW s2] 128)) (hM2.1.below hb3 (Nat.le_refl _)) (by omega) (by simp) hP3.1.2.2.2 (hP3.2 3) ⟨hIl, hIr.below hbw3⟩ (by omega)
    have hQ3 := hQ.below hbw3 hBl
    obtain ⟨W3, hW3⟩ : ∃ W3, W2.alloc (.cells #[.string d.n, .int .i64 d.v, .int .i64 d.x, slW s2] 128) = W3 := ⟨_, rfl⟩
    have o3' := hQ3.2.2.2.1
    dsimp only at o3'
    have g3' := (World.cell?_of_block (hbw3.block gs hgl)).trans hgs
    rw [hW3] at HTK hbw3
    have HW3 : Hid (_ = W3) := hW3
    clear hW3 o0 o1 o2 o3 o4 o5 o6 o7 c0 c1 c2 c3 hQ1 hQ3 hP3 g3
    go_wp2_with fail
    (try rw [HW3.out])
    skip
    refine HTK.mono ?_
    rintro e W5 ⟨so, sl, W4, rfl, rfl, hb4, hO4, hL4, hgo4, hgl4, hof4⟩
    rw [← HW3.out] at hb4 hgo4 hgl4
    have hT := TkY.of hb1 hM2 hb2 hb4 hO4 hL4 hgo4 hgl4
    obtain ⟨hsel, hless⟩ := HSEL.out ms2 hM2.2.1
    have hfm : ∀ x ∈ ms2.filter fun d => tkM ou 0 d.m, x.m.b.length ≤ 400 := fun x hx => (hmb x.m (hM2.2.1 ▸ List.mem_map.2 ⟨x, (List.mem_filter.1 hx).1, rfl⟩)).2
    have hol : (ms2.filter fun d => tkM ou 0 d.m).length ≤ 6 := Nat.le_trans (List.length_filter_le _ _) hml2
    clear hb4 hO4 hL4 hgo4 hgl4 hof4 HTK HW3 hM2 hb2 hb3 hbw3 o3' g3' HSEL hml2
    generalize (ms2.filter fun d => tkM ou 0 d.m) = outs at *
    generalize (ms2.filter fun d => !tkM ou 0 d.m) = left at *
    generalize W2.heap.size = gP at *
    rw [Nat.zero_add]
    generalize W4.setCell ⟨gP, 3, none⟩ (slW sl) = Y at *
    obtain ⟨sel, hse⟩ : ∃ sel, selM ou (nthX l i).m = sel := ⟨_, rfl⟩
    rw [hse] at hsel HV
    have hsn : sel.length = outs.length := by rw [← hsel, List.length_map]
    obtain ⟨oa, oc, rfl, hoc1, hoc2⟩ : ∃ oa oc, so = (oa, outs.length, oc) ∧ outs.length ≤ oc ∧ oc ≤ maxLen := by
     obtain ⟨⟨a', n', c'⟩, e, h1, h2, h3, -⟩ := row_form hT.o.1
     obtain ⟨b1, b2, b3⟩ := so
     cases e
     dsimp only at h1 h2 h3
     exact ⟨a', c', by rw [h1], by omega, h3⟩
    unfold maxLen at hoc2
    have HV2 : Hid (rr = if roomB dj.x dj.ms.length outs.length = true then (0, idsZ (nthX l j).x outs.length, v, (l.set j (putsB (nthX l j) sel)).set i (lessB (nthX l i) ou)) else badR 10) := by show _ = _; rw [HV.out, HJM.out.1, HJM.out.2, hsn]
    have HSQ : Hid (∀ q (h : q < outs.length) (h2 : q < sel.length), sel[q] = outs[q].m) := fun q h h2 => by
     have h3 := hsel
     subst h3
     rw [List.getElem_map]
    clear HV hse hsel
    have gY := (World.cell?_of_block (hT.b.block gs hgl)).trans hgs
    obtain ⟨r2, r3⟩ := HRJ.out Y hT.b
    dsimp only [slW] at gY ⊢
    have hYw := hT.b.size
    have hltx : ∀ g ∈ blkS ((some ⟨gX, 0, none⟩, l.length, cap) : SlQ) ++ fpX xs, g < w.heap.size := hC.1.lt
    have hr1 : dj.ms.length + outs.length ≤ 1000 := by omega
    have HPD : Hid (∀ (q : Nat) (dq : Dx), (blkS dq.s = blkS (nthE xs j).s ∨ ∀ g ∈ blkS dq.s, Y.heap.size ≤ g) → PdM ((nthX l j).m.length + q) dq.s (oa, outs.length, oc) outs) := fun q dq h => .inr fun g hg hc => by
     have h1 := hT.og g (List.mem_append_left _ hg)
     rcases h with h | h
     ·rw [h, nthE_get hjx] at hc
      have h2 := hltx g (List.mem_append_right _ (mem_flat_get hjx (List.mem_append_left _ hc)))
      omega
     ·have h2 := h g hc
      have h3 := hT.o.lt g (List.mem_append_left _ hg)
      omega
    clear hdj HRI HHM
    by_cases hr1 : dj.ms.length + outs.length ≤ 6
    ·have hr1' : ¬ (6 : Int) < (dj.ms.length : Int) + (outs.length : Int) := by omega
     by_cases hr2 : dj.x + (outs.length : Int) ≤ 1000
     ·have hr2' : ¬ (1000 : Int) < dj.x + (outs.length : Int) := by omega
      have HVT : Hid (_) := HV2.out.trans (if_pos (decide_eq_true ⟨hr1, hr2⟩))
      clear HV2
      have hb6 : Below Y.heap.size Y (Y.alloc (.cells #[] 2)) := (Below.refl _ _).alloc (Nat.le_refl _) _
      have hCS0 : CS N gs Y (Y.alloc (.cells #[] 2)) (some ⟨gX, 0, none⟩, l.length, cap) (some ⟨Y.heap.size, 0, none⟩, 0, 0) (oa, outs.length, oc) v l xs j sel outs 0 (nthE xs j) := by
       have e1 : xs.set j (nthE xs j) = xs := by rw [nthE_get hjx]; exact List.set_getElem_self _
       have e2 : l.set j (putsB (nthX l j) (sel.take 0)) = l := by rw [List.take_zero, show putsB (nthX l j) [] = nthX l j from rfl, nthX_get hjl]; exact List.set_getElem_self _
       exact ⟨by rw [e1, e2]; exact hC.below (hT.b.trans (hb6.mono hYw)) (Nat.le_refl _), .inl rfl, fun g hg => .inl (by rw [e1] at hg; exact hg), Kx.of_below hb6, hT.o.below hb6 (Nat.le_refl _), OwZ.lit _ _, fun g hg => by
        have hg' : g = Y.heap.size := by simpa [blkS] using hg
        refine ⟨by omega, fun hc => ?_⟩
        rw [e1] at hc
        have := hltx g hc
        omega⟩
      clear hb6
      go_wp2
      go_loopw [12, 13] (fun u y wr => ∃ (q : Nat) (su : SlQ) (dq : Dx), q ≤ outs.length ∧ y = .int .i64 q ∧ u = slW su ∧ CS N gs Y wr (some ⟨gX, 0, none⟩, l.length, cap) su (oa, outs.length, oc) v l xs j sel outs q dq) (fun _ y _ => outs.length - (intV y).toNat)
      case atStart => exact ⟨0, (some ⟨Y.heap.size, 0, none⟩, 0, 0), nthE xs j, Nat.zero_le _, rfl, rfl, hCS0⟩
      case round =>
       obtain ⟨q, su, dq, hq, rfl, rfl, hS⟩ := hrel
       clear hCS0
       by_cases hqn : q < outs.length
       ·have hqi : (q : Int) < (outs.length : Int) := by omega
        have hqs : q < sel.length := by omega
        obtain ⟨gm, eg, -, m0, m1, m2, m3⟩ := hS.hm.row_at q hqn
        dsimp only at eg
        subst eg
        have hOB := hS.hm.2 _ (List.getElem_mem hqn)
        have hsq := HSQ.out q hqn hqs
        have hmbk := hfm _ (List.getElem_mem hqn)
        have hPd := HPD.out q dq hS.row
        have hpx := putsB_x (nthX l j) (sel.take q)
        rw [List.length_take, Nat.min_eq_left (Nat.le_of_lt hqs), HJM.out.1, HJM.out.2] at hpx
        have HPX : Hid ((putsB (nthX l j) (sel.take q)).x = dj.x + (q : Int) ∧ (putsB (nthX l j) (sel.take q)).m.length = dj.ms.length + q) := hpx
        clear hpx
        obtain ⟨dm, hdm⟩ : ∃ dm, outs[q] = dm := ⟨_, rfl⟩
        rw [hdm] at m0 m1 m2 m3 hOB hsq hmbk
        clear hdm
        obtain ⟨⟨mu, mf, md, mb⟩, msd⟩ := dm
        dsimp only at m0 m1 m2 m3 hOB hsq hmbk
        have hzN : N ≤ wr.heap.size := Nat.le_trans hN (Nat.le_trans hYw hS.k.size)
        go_wp2_with fail
        refine (l8Put_any N gX j (some ⟨gX, 0, none⟩, l.length, cap) _ _ mu mf md msd mb wr hS.c rfl (by rw [List.length_set]; exact hjx) hOB (by omega) (by rw [nthX_set hjl, HPX.out.1]; omega) (by rw [nthX_set hjl, HPX.out.2]; omega) hzN).mono ?_
        intro e Y7 hE
        obtain ⟨rfl, dq', c7, r7, me7, k7, hm7, u7, uo7⟩ := hS.put hjl hjx hqs hsq hPd hE
        have hb8 : Below Y7.heap.size Y7 (Y7.alloc (.cells #[.int .i64 ((nthX l j).x + (q : Int))] 2)) := (Below.refl _ _).alloc (Nat.le_refl _) _
        have c8 := c7.below hb8 (Nat.le_refl _)
        have k8 := k7.below hb8
        have hm8 := hm7.below hb8 (Nat.le_refl _)
        have u8 := u7.below hb8 (Nat.le_refl _)
        clear hS hOB hE m0 m1 m2 m3 c7 k7 hm7 u7 hb8 HPX hPd hsq
        go_wp2_with (at_builtin; go_loud (refine app1 rfl _ _ 25 2 rfl Tryz.underlying25 infoZ64 su _ rfl u8 Y7.heap.size ((nthX l j).x + (q : Int)) rfl (by simp) (by rw [idsZ_len]; omega) ?_; intro s9 Y9 u9 hgr9 hloc9))
        rw [← idsZ_snoc] at u9
        generalize Y7.alloc (.cells #[.int .i64 ((nthX l j).x + (q : Int))] 2) = Y8 at *
        have hblk : ∀ g, g < Y8.heap.size → g ∉ blkS su → Y9.heap[g]? = Y8.heap[g]? := fun g h1 h2 => hgr9.block g h1 (fun e => h2 (mem_blkS.2 e.symm))
        have c9 : CX N Y9 (some ⟨gX, 0, none⟩, l.length, cap) (l.set j (putsB (nthX l j) (sel.take (q + 1)))) (xs.set j dq') := ⟨c8.1.keep fun g hg => hblk g (c8.1.lt g hg) (fun hc => (uo7 g hc).2 hg), c8.2⟩
        have k9 : Kx (blkS ((some ⟨gX, 0, none⟩, l.length, cap) : SlQ) ++ fpX xs) Y Y9 := k8.grown hgr9 (fun g hg => .inr (uo7 g (mem_blkS.2 hg)).1)
        have hm9 : HM Y9 (some ⟨gm, 0, none⟩, outs.length, oc) outs := hm8.keep fun g hg => hblk g (hm8.lt g hg) (fun hc => by have h1 := (uo7 g hc).1; have h2 := hT.o.lt g hg; omega)
        have uo9 : ∀ g ∈ blkS s9, Y.heap.size ≤ g ∧ g ∉ blkS ((some ⟨gX, 0, none⟩, l.length, cap) : SlQ) ++ fpX (xs.set j dq') := fun g hg => by
         rcases hloc9 with e | e
         ·exact uo7 g (e ▸ hg)
         ·rw [e, List.mem_singleton] at hg; subst hg; exact ⟨k8.size, fun hc => absurd (c8.1.lt _ hc) (Nat.lt_irrefl _)⟩
        have HC9 : Hid (CS N gs Y Y9 (some ⟨gX, 0, none⟩, l.length, cap) s9 (some ⟨gm, 0, none⟩, outs.length, oc) v l xs j sel outs (q + 1) dq') := ⟨c9, r7, me7, k9, hm9, u9, uo9⟩
        clear c8 k8 hm8 u8 hgr9 hloc9 hblk uo7 c9 r7 me7 k9 hm9 u9 uo9
        go_wp2
        go_roundw
        case rel => exact ⟨q + 1, s9, dq', by omega, by go_num, rfl, HC9.out⟩
        case measure => simp [intV, Go.RowKit.intOf]; omega
       ·have hqi : ¬ (q : Int) < (outs.length : Int) := by omega
        obtain rfl : q = outs.length := by omega
        have hjt : sel.take outs.length = sel := List.take_of_length_le (by omega)
        have hC1 := hS.c
        rw [hjt] at hC1
        have hblk : ∀ g, g < w.heap.size → g ∉ blkS ((some ⟨gX, 0, none⟩, l.length, cap) : SlQ) ++ fpX xs → wr.heap[g]? = w.heap[g]? := fun g h1 h2 => (hS.k.block g (Nat.lt_of_lt_of_le h1 hYw) h2).trans (hT.b.block g h1)
        have hkY : Kx (blkS ((some ⟨gX, 0, none⟩, l.length, cap) : SlQ) ++ fpX xs) w wr := (Kx.of_below hT.b).trans hS.k (fun g hg => .inl hg)
        have o0 := (World.cell?_of_block (hblk B hBl hBo)).trans hQ.1
        dsimp only at o0
        go_wp2_with fail
        have hbD : Below wr.heap.size wr wr.drew := (Below.refl _ _).drew
        have hnf : ∀ g, w.heap.size ≤ g → g ∉ blkS ((some ⟨gX, 0, none⟩, l.length, cap) : SlQ) ++ fpX xs := fun g h hc => by have := hltx g hc; omega
        have hC2 := hC1.below hbD (Nat.le_refl _)
        have hpl := hT.p.lt
        have hP2 := (hT.p.block (hS.k.block gP hpl (hnf gP hT.pg))).below hbD (Nat.lt_of_lt_of_le hpl hS.k.size)
        have hL2 := (hT.l.keep (w' := wr) fun g hg => hS.k.block g (hT.l.lt g hg) (hnf g (hT.lg g hg))).below hbD (Nat.le_refl _)
        have hU2 := hS.u.below hbD (Nat.le_refl _)
        have hG2 := (World.cell?_of_block (hbD.block gs (Nat.lt_of_lt_of_le hgl hkY.size))).trans ((World.cell?_of_block (hblk gs hgl hgo)).trans hgs)
        have hk2 := hkY.below hbD
        dsimp only [slW] at hG2
        have hgX : gX ∈ blkS ((some ⟨gX, 0, none⟩, l.length, cap) : SlQ) := by simp [blkS]
        have hif : ∀ g ∈ fpD ⟨d.n, d.v, d.x, sl, left⟩, w.heap.size ≤ g ∧ g < Y.heap.size := fun g hg => ⟨hT.lg g hg, hT.l.lt g hg⟩
        have HLB : Hid (lessB (nthX l i) ou = Dx.bx ⟨d.n, d.v, d.x, sl, left⟩) := by
         show _ = _
         have h := HBI.out
         unfold Dx.bx
         dsimp only
         rw [hless]
         unfold lessB
         dsimp only
         rw [h.1, h.2.1, h.2.2.1]
        have hdis : ∀ g ∈ fpD ⟨d.n, d.v, d.x, sl, left⟩, g ∉ blkS ((some ⟨gX, 0, none⟩, l.length, cap) : SlQ) ++ fpX (xs.set j dq) := fun g hg hc => by
         have h1 := hif g hg
         rcases hS.mem g hc with h | h
         ·have := hltx g h; omega
         ·omega
        clear hbD hC1 hkY o0
        refine wp_region_held_drew (S := fun w' => w'.cell? ⟨gs, 3, none⟩ = some (.slice (some ⟨gX, 0, none⟩) l.length cap) ∧ w'.cell? ⟨gP, 0, none⟩ = some (.string d.n) ∧ w'.cell? ⟨gP, 1, none⟩ = some (.int .i64 d.v) ∧ w'.cell? ⟨gP, 2, none⟩ = some (.int .i64 d.x) ∧ w'.cell? ⟨gP, 3, none⟩ = some (slW sl)) (by kernel_rfl) ?hS1 (fun hHeld => ?_)
        case hS1 => exact ⟨hG2, hP2.1⟩
        refine tk (i := 0) (v := ?_) rfl (Or.inl ⟨by rfl, ?hy2⟩) ?ty2
        case hy2 => (intro w5 hSw; obtain ⟨p0, p1, p2, p3, p4⟩ := hSw; go_simp; all_goals with_reducible rfl)
        simp only [Act.put, J1, J2, J4, J5, J6]
        refine tk (i := 1) (v := ?_) rfl (Or.inl ⟨by rfl, ?hy3⟩) ?ty3
        case hy3 => (intro w5 hSw; obtain ⟨p0, p1, p2, p3, p4⟩ := hSw; go_simp; all_goals with_reducible rfl)
        simp only [Act.put, J1, J2, J3, J4, J5, J6]
        refine tk (i := 2) (v := ?_) rfl (Or.inl ⟨by rfl, ?hy4⟩) ?ty4
        case hy4 => (intro w5 hSw; obtain ⟨p0, p1, p2, p3, p4⟩ := hSw; go_simp; all_goals with_reducible rfl)
        simp only [Act.put, J1, J2, J3, J4, J5, J6]
        refine tk (i := 3) (v := ?_) rfl (Or.inl ⟨by rfl, ?hy5⟩) ?ty5
        case hy5 => (intro w5 hSw; obtain ⟨p0, p1, p2, p3, p4⟩ := hSw; go_simp; all_goals with_reducible rfl)
        simp only [Act.put, J1, J2, J3, J4, J5, J6]
        refine tk (i := 4) (v := ?_) rfl (Or.inl ⟨by rfl, ?hy6⟩) ?ty6
        case hy6 => (intro w5 hSw; obtain ⟨p0, p1, p2, p3, p4⟩ := hSw; go_simp; all_goals with_reducible rfl)
        simp only [Act.put, J1, J2, J3, J4, J5, J6]
        refine tk (i := 5) (v := ?_) rfl (Or.inl ⟨by rfl, ?hy7⟩) ?ty7
        case hy7 => (intro w5 hSw; obtain ⟨p0, p1, p2, p3, p4⟩ := hSw; go_simp; all_goals with_reducible rfl)
        simp only [Act.put, J1, J2, J3, J4, J5, J6]
        refine tk (i := 6) (v := ?_) rfl (Or.inl ⟨by rfl, ?hy8⟩) ?ty8
        case hy8 => (intro w5 hSw; obtain ⟨p0, p1, p2, p3, p4⟩ := hSw; go_simp; all_goals with_reducible rfl)
        simp only [Act.put, J1, J2, J3, J4, J5, J6]
        generalize World.drew wr = Z at *
        refine wpAnyH_ready (rs := [7]) (by kernel_rfl) (by simp) ?_
        refine AllReadyH.cons rfl (fun K hK => ?_) AllReadyH.nil
        obtain ⟨g', eg, -, b0, b1, b2, b3⟩ := hC2.1.row_at i (by rw [List.length_set]; exact hix)
        cases eg
        have hr4 := hC2.1.1
        rw [List.length_set, hxl] at hr4
        have f0 : Z.frozen? ⟨gX, i * 4, none⟩ = false := hr4.frozenAt _
        have f1 : Z.frozen? ⟨gX, i * 4 + 1, none⟩ = false := hr4.frozenAt _
        have f2 : Z.frozen? ⟨gX, i * 4 + 2, none⟩ = false := hr4.frozenAt _
        have f3 : Z.frozen? ⟨gX, i * 4 + 3, none⟩ = false := hr4.frozenAt _
        have hC3 := hC2.swap4 i (by rw [List.length_set]; exact hix) rfl ⟨d.n, d.v, d.x, sl, left⟩ hL2 hT.ln hdis (fun g hg => Nat.le_trans hN (hif g hg).1)
        dsimp only at hC3
        have hk3 := (((hk2.set gX (i * 4) (.string d.n) (.inl (List.mem_append_left _ hgX))).set gX (i * 4 + 1) (.int .i64 d.v) (.inl (List.mem_append_left _ hgX))).set gX (i * 4 + 2) (.int .i64 d.x) (.inl (List.mem_append_left _ hgX))).set gX (i * 4 + 3) (slW sl) (.inl (List.mem_append_left _ hgX))
        have hb4 : ∀ k, k ≠ gX → ((((Z.setCell ⟨gX, i * 4, none⟩ (.string d.n)).setCell ⟨gX, i * 4 + 1, none⟩ (.int .i64 d.v)).setCell ⟨gX, i * 4 + 2, none⟩ (.int .i64 d.x)).setCell ⟨gX, i * 4 + 3, none⟩ (slW sl)).heap[k]? = Z.heap[k]? := fun k hne => by
         rw [Below.heap_setCell _ _ _ _ hne, Below.heap_setCell _ _ _ _ hne, Below.heap_setCell _ _ _ _ hne, Below.heap_setCell _ _ _ _ hne]
        have hU3 := hU2.keep (w' := (((Z.setCell ⟨gX, i * 4, none⟩ (.string d.n)).setCell ⟨gX, i * 4 + 1, none⟩ (.int .i64 d.v)).setCell ⟨gX, i * 4 + 2, none⟩ (.int .i64 d.x)).setCell ⟨gX, i * 4 + 3, none⟩ (slW sl)) fun g hg => hb4 g (fun e => (hS.uo g hg).2 (List.mem_append_left _ (e ▸ hgX)))
        have hne1 : gs ≠ gX := fun e => hgo (List.mem_append_left _ (e ▸ hgX))
        have hne2 : gP ≠ gX := fun e => hnf gP hT.pg (List.mem_append_left _ (e ▸ hgX))
        have hG3 := (World.cell?_of_block (hb4 gs hne1)).trans hG2
        have hP3 := hP2.block (hb4 gP hne2)
        clear hb4
        go_simp
        generalize (((Z.setCell ⟨gX, i * 4, none⟩ (.string d.n)).setCell ⟨gX, i * 4 + 1, none⟩ (.int .i64 d.v)).setCell ⟨gX, i * 4 + 2, none⟩ (.int .i64 d.x)).setCell ⟨gX, i * 4 + 3, none⟩ (slW sl) = Z4 at *
        refine hK.out _ _ ⟨hG3, hP3.1⟩ (fun hHeld => ?_)
        clear hK K
        refine wpAnyH_done (by kernel_rfl) ?_ _
        have HE : Hid (CrEnd N (some ⟨gX, 0, none⟩, l.length, cap) xs rr w (.returned (.tuple #[slW su, .int .i64 0])) Z4) := by
         show CrEnd _ _ _ _ _ _ _
         rw [HVT.out, HLB.out]
         refine .inr ⟨rfl, su, _, rfl, hU3, hC3, fun g hg => ⟨Nat.le_trans hYw (hS.uo g hg).1, fun hc => ?_⟩, fun g hg => ?_, hk3⟩
         ·rcases List.mem_append.1 hc with hc | hc
          ·exact (hS.uo g hg).2 (List.mem_append_left _ hc)
          ·rcases flat_mem_set (by rw [List.length_set]; exact hix) hc with hc | hc
           ·exact (hS.uo g hg).2 (List.mem_append_right _ hc)
           ·have h1 := (hS.uo g hg).1; have h2 := (hif g hc).2; omega
         ·rcases List.mem_append.1 hg with hg | hg
          ·exact .inl (List.mem_append_left _ hg)
          ·rcases flat_mem_set (by rw [List.length_set]; exact hix) hg with hg | hg
           ·exact (hS.mem g (List.mem_append_right _ hg)).imp id (fun h => Nat.le_trans hYw h)
           ·exact .inr (hif g hg).1
        clear hHeld hC3 hU3 hk3 hG3 hP3 hS hC2 hU2 hk2 hG2 hP2 hL2
        go_wp2
        go_ret2
        exact HE.out
     ·have hr2' : (1000 : Int) < dj.x + (outs.length : Int) := by omega
      have HVT : Hid (rr = badR 10) := HV2.out.trans (if_neg (fun h => hr2 (of_decide_eq_true h).2))
      clear HV2
      go_wp2
      go_ret2
      rw [HVT.out]
      exact .inl ⟨by decide, rfl, Kx.of_below hT.b⟩
    ·have hr1' : (6 : Int) < (dj.ms.length : Int) + (outs.length : Int) := by omega
     have HVT : Hid (rr = badR 10) := HV2.out.trans (if_neg (fun h => hr1 (of_decide_eq_true h).1))
     clear HV2
     go_wp2
     go_ret2
     rw [HVT.out]
     exact .inl ⟨by decide, rfl, Kx.of_below hT.b⟩
end Go.Proofs.YtejbbnpgghpgaaaGreatDoor
