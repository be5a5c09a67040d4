/- What is done to a shelf: flags of messages are turned; no conditions beyond those that each fact names. -/
import Derived.Test.YtejbbnpgghpgaaaGreatDoorDdbToDdc
import Derived.Test.YtejbbnpgghpgaaaGreatDoorMsbToBxs
namespace Go.Proofs.YtejbbnpgghpgaaaGreatDoor
open Go.RowKit List
set_option linter.unusedVariables false
theorem Qo.of_block {w w' : World} {g : Nat} {q : Oc} (h : Qo w g q) (hb : w'.heap[g]? = w.heap[g]?) : Qo w' g q := by
  obtain ⟨h0, h1, h2, h3, h4, h5, h6, h7⟩ := h
  exact ⟨(World.cell?_of_block hb).trans h0, (World.cell?_of_block hb).trans h1, (World.cell?_of_block hb).trans h2, (World.cell?_of_block hb).trans h3, (World.cell?_of_block hb).trans h4, (World.cell?_of_block hb).trans h5, (World.cell?_of_block hb).trans h6, (World.cell?_of_block hb).trans h7⟩
set_option maxHeartbeats 800000 in
theorem isTold_any (q : SlQ) (w : World) : Calls Tryz.prog 194 #[slW q] w fun e w' => e = .returned (.func (.func 217) #[] #[.pointer (some ⟨w.heap.size, 0, none⟩)]) ∧ w' = w.alloc (.cells #[slW q] 25) := by
  go_enter Tryz.func194, Tryz.ntmps194
  go_wp2
  go_ret
  exact ⟨rfl, rfl⟩
theorem told_any (p1 : SlQ) (ou : List Int) (s : SlQ) (ms : List Dm) (g : Nat) (w : World) (hs : HM w s ms) (hn : ms.length ≤ 1000) (hU : w.cell? ⟨g, 0, none⟩ = some (slW p1)) (hl : ou.length = p1.2.1) (hr : RdI w p1.1 ou) (hul : ou.length ≤ 1000) :
    Calls Tryz.prog 193 #[slW s, .func (.func 217) #[] #[.pointer (some ⟨g, 0, none⟩)]] w fun e w' => PlEnd (psZ (fun k => hasZ ou (nthD ms k).m.u) ms.length) w e w' := by
  have h := placesOf_ct 217 (.pointer (some ⟨g, 0, none⟩)) s (ms.map Dm.m) (fun k => hasZ ou (nthD ms k).m.u) w (hs.ms (lo := 0) (fun _ _ => Nat.zero_le _)) (by rw [List.length_map]; omega) (fun _ _ => by kernel_rfl) (fun k hk q w' hb => by
    rw [List.length_map] at hk
    rw [map_nthM hk]
    have h := isTold1_any g p1 ou ms[k].m q w' ((hb.cell (p := ⟨g, 0, none⟩) (World.block_lt_of_cell? w _ hU)).trans hU) hl (hr.below hb) (by omega)
    rw [← nthD_get hk] at h ⊢
    exact h)
  rw [List.length_map] at h
  exact h
theorem psN_eq (p : Nat → Bool) : ∀ n, psN p n = (List.range n).filter p
  | 0 => rfl
  | n + 1 => by
    rw [psN, psN_eq p n, List.range_succ, List.filter_append]
    cases h : p n <;> simp [h]
theorem psN_lt {p : Nat → Bool} {n k : Nat} (h : k ∈ psN p n) : k < n := by rw [psN_eq] at h; exact List.mem_range.1 (List.mem_filter.1 h).1
theorem psN_pw (p : Nat → Bool) (n : Nat) : (psN p n).Pairwise (· < ·) := by rw [psN_eq]; exact (List.pairwise_lt_range (n := n)).filter _
theorem hasZ_psZ (p : Nat → Bool) {n k : Nat} (h : k < n) : hasZ (psZ p n) (k : Int) = p k := by
  unfold hasZ psZ
  cases hp : p k with
  | true =>
    refine decide_eq_true (List.mem_map.2 ⟨k, ?_, rfl⟩)
    rw [psN_eq]; exact List.mem_filter.2 ⟨List.mem_range.2 h, hp⟩
  | false =>
    refine decide_eq_false (fun hm => ?_)
    obtain ⟨j, hj, e⟩ := List.mem_map.1 hm
    rw [psN_eq] at hj
    obtain rfl : j = k := by omega
    rw [(List.mem_filter.1 hj).2] at hp
    cases hp
theorem range_nthD (l : List Dm) : (List.range l.length).map (nthD l) = l := by
  apply List.ext_getElem
  · simp
  · intro k h1 h2
    rw [List.getElem_map, List.getElem_range, nthD_get h2]
theorem filt_nthD (l : List Dm) (pr : Dm → Bool) : (psN (fun k => pr (nthD l k)) l.length).map (nthD l) = l.filter pr := by
  rw [psN_eq]
  conv => rhs; rw [← range_nthD l]
  rw [List.filter_map]
  rfl
def flM (us : List Int) (m b : Int) (x : Msg) : Msg := if hasZ us x.u = true then ⟨x.u, tuF x.f m b, x.d, x.b⟩ else x
def flR (v : Int) (l : List Bx) (i : Nat) (us : List Int) (m b : Int) : Rs := (0, ((nthX l i).m.filter fun x => hasZ us x.u).map Msg.u, v, l.set i ⟨(nthX l i).n, (nthX l i).v, (nthX l i).x, (nthX l i).m.map (flM us m b)⟩)
theorem flJ_all (us : List Int) (m b : Int) (ms : List Dm) : (flJ m b ms (psZ (fun k => hasZ us (nthD ms k).m.u) ms.length)).map Dm.m = (ms.map Dm.m).map (flM us m b) := by
  apply List.ext_getElem
  · simp [flJ_len]
  · intro k h1 h2
    rw [List.length_map, flJ_len] at h1
    rw [List.getElem_map, List.getElem_map, List.getElem_map]
    simp only [flJ, List.getElem_map, List.getElem_range]
    rw [hasZ_psZ _ h1, nthD_get h1]
    unfold flM Dm.fl
    split <;> rfl
theorem uidJ_all (us : List Int) (ms : List Dm) : (psN (fun k => hasZ us (nthD ms k).m.u) ms.length).map (fun k => (nthD ms k).m.u) = ((ms.map Dm.m).filter fun x => hasZ us x.u).map Msg.u := by
  have h := filt_nthD ms (fun d => hasZ us d.m.u)
  rw [show (fun k => (nthD ms k).m.u) = (fun d : Dm => d.m.u) ∘ nthD ms from rfl, ← List.map_map, h, List.filter_map, List.map_map]
  rfl
theorem flag_kit {N gs gX cap i : Nat} {v om of : Int} {ou : List Int} {l : List Bx} {xs : List Dx} {w : World} (hi : i < l.length) (hix : i < xs.length) (d : Dx) (hd : xs[i] = d) (hbx : nthX l i = d.bx) :
    (∀ (W : World) (su : SlQ), OwZ 2 W su ((psN (fun k => hasZ ou (nthD d.ms k).m.u) d.ms.length).map fun k => (nthD d.ms k).m.u) →
      Sh N W gs v (l.set i (Dx.bx ⟨d.n, d.v, d.x, d.s, flJ om of d.ms (psZ (fun k => hasZ ou (nthD d.ms k).m.u) d.ms.length)⟩)) (some ⟨gX, 0, none⟩, l.length, cap) (xs.set i ⟨d.n, d.v, d.x, d.s, flJ om of d.ms (psZ (fun k => hasZ ou (nthD d.ms k).m.u) d.ms.length)⟩) →
      (∀ g ∈ blkS su, N ≤ g ∧ g ≠ gs ∧ g ∉ blkS ((some ⟨gX, 0, none⟩, l.length, cap) : SlQ) ++ fpX (xs.set i ⟨d.n, d.v, d.x, d.s, flJ om of d.ms (psZ (fun k => hasZ ou (nthD d.ms k).m.u) d.ms.length)⟩)) → Below N w W →
      DeEnd N gs (flR v l i ou om of) w (.returned (.tuple #[slW su, .int .i64 0])) W) ∧
    (∀ (W : World) (P : List Int) (k : Nat) (hk : k < d.ms.length) (g n' cp : Nat), hasZ P (k : Int) = false → d.s = (some ⟨g, 0, none⟩, n', cp) → N ≤ W.heap.size →
      CX N W (some ⟨gX, 0, none⟩, l.length, cap) (l.set i (Dx.bx ⟨d.n, d.v, d.x, d.s, flJ om of d.ms P⟩)) (xs.set i ⟨d.n, d.v, d.x, d.s, flJ om of d.ms P⟩) →
      (W.cell? ⟨g, k * 4, none⟩ = some (.int .i64 (nthD d.ms k).m.u) ∧ W.cell? ⟨g, k * 4 + 1, none⟩ = some (.int .i64 (nthD d.ms k).m.f) ∧ W.frozen? ⟨g, k * 4 + 1, none⟩ = false) ∧
      CX N (W.setCell ⟨g, k * 4 + 1, none⟩ (.int .i64 (tuF (nthD d.ms k).m.f om of))) (some ⟨gX, 0, none⟩, l.length, cap) (l.set i (Dx.bx ⟨d.n, d.v, d.x, d.s, flJ om of d.ms (P ++ [(k : Int)])⟩)) (xs.set i ⟨d.n, d.v, d.x, d.s, flJ om of d.ms (P ++ [(k : Int)])⟩) ∧
      Kx (blkS ((some ⟨gX, 0, none⟩, l.length, cap) : SlQ) ++ fpX xs) W (W.setCell ⟨g, k * 4 + 1, none⟩ (.int .i64 (tuF (nthD d.ms k).m.f om of)))) ∧
    (∀ W, CX N W (some ⟨gX, 0, none⟩, l.length, cap) l xs → CX N W (some ⟨gX, 0, none⟩, l.length, cap) (l.set i (Dx.bx ⟨d.n, d.v, d.x, d.s, flJ om of d.ms []⟩)) (xs.set i ⟨d.n, d.v, d.x, d.s, flJ om of d.ms []⟩)) ∧
    (∀ P, fpX (xs.set i ⟨d.n, d.v, d.x, d.s, flJ om of d.ms P⟩) = fpX xs) ∧
    (∀ W, CX N W (some ⟨gX, 0, none⟩, l.length, cap) l xs → HM W d.s d.ms) := by
  subst hd
  refine ⟨?_, ?_, ?_, ?_, ?_⟩
  · exact fun W su h1 h2 h3 h4 => by
      refine .inr ⟨rfl, su, _, _, rfl, ?_, ?_, h3, h4⟩
      · show OwZ _ _ _ (((nthX l i).m.filter fun x => hasZ ou x.u).map Msg.u)
        rw [hbx]
        rw [uidJ_all] at h1
        exact h1
      · show Sh N W gs v (l.set i ⟨(nthX l i).n, (nthX l i).v, (nthX l i).x, (nthX l i).m.map (flM ou om of)⟩) _ _
        have e : Dx.bx ⟨xs[i].n, xs[i].v, xs[i].x, xs[i].s, flJ om of xs[i].ms (psZ (fun k => hasZ ou (nthD xs[i].ms k).m.u) xs[i].ms.length)⟩ = ⟨(nthX l i).n, (nthX l i).v, (nthX l i).x, (nthX l i).m.map (flM ou om of)⟩ := by
          rw [hbx]; unfold Dx.bx; dsimp only; rw [flJ_all]
        rw [← e]; exact h2
  · exact fun W P k hk g n' cp h0 hsg hNW hC => by
      have hii' : i < (xs.set i ⟨xs[i].n, xs[i].v, xs[i].x, xs[i].s, flJ om of xs[i].ms P⟩).length := by rw [List.length_set]; exact hix
      have hself : (xs.set i ⟨xs[i].n, xs[i].v, xs[i].x, xs[i].s, flJ om of xs[i].ms P⟩)[i]'hii' = ⟨xs[i].n, xs[i].v, xs[i].x, xs[i].s, flJ om of xs[i].ms P⟩ := List.getElem_set_self hii'
      have hfp : fpX (xs.set i ⟨xs[i].n, xs[i].v, xs[i].x, xs[i].s, flJ om of xs[i].ms P⟩) = fpX xs := by
        show List.flatMap fpD _ = _
        rw [flat_set fpD xs i _ hix]
        have : fpD ⟨xs[i].n, xs[i].v, xs[i].x, xs[i].s, flJ om of xs[i].ms P⟩ = fpD xs[i] := by show blkS _ ++ fpM _ = _; rw [flJ_fp]; rfl
        rw [this]
        exact (flat_split fpD xs i hix).symm
      have hkl : k < (flJ om of xs[i].ms P).length := by rw [flJ_len]; exact hk
      have hflk : (flJ om of xs[i].ms P)[k] = xs[i].ms[k] := flJ_get hk h0 hkl
      have hHM := hC.1.2 _ (List.getElem_mem hii')
      have hfl := hC.flag i hii' hNW (g := g) (n := n') (cap := cp) (by rw [hself]; exact hsg) k (by rw [hself]; exact hkl) (tuF (nthD xs[i].ms k).m.f om of)
      simp only [hself] at hfl hHM
      rw [List.set_set, List.set_set, hflk, hfp, nthD_get hk, flJ_step hk h0] at hfl
      obtain ⟨g', eg, -, r0, r1, r2, r3⟩ := hHM.row_at k hkl
      rw [hsg] at eg
      cases eg
      rw [hflk] at r0 r1
      have hz := hHM.1
      rw [hsg] at hz
      obtain ⟨⟨a', n1, c1'⟩, e1, h2, -⟩ := row_form hz
      cases e1
      dsimp only at h2
      rw [← h2] at hz
      rw [nthD_get hk]
      exact ⟨⟨r0, r1, hz.frozenAt _⟩, hfl⟩
  · exact fun W hC => by
      have e1 : xs.set i ⟨xs[i].n, xs[i].v, xs[i].x, xs[i].s, flJ om of xs[i].ms []⟩ = xs := by rw [flJ_nil]; exact List.set_getElem_self _
      have e2 : l.set i (Dx.bx ⟨xs[i].n, xs[i].v, xs[i].x, xs[i].s, flJ om of xs[i].ms []⟩) = l := by
        rw [flJ_nil, show Dx.bx ⟨xs[i].n, xs[i].v, xs[i].x, xs[i].s, xs[i].ms⟩ = nthX l i from hbx.symm, nthX_get hi]
        exact List.set_getElem_self _
      rw [e1, e2]; exact hC
  · exact fun P => by
        show List.flatMap fpD _ = _
        rw [flat_set fpD xs i _ hix]
        have : fpD ⟨xs[i].n, xs[i].v, xs[i].x, xs[i].s, flJ om of xs[i].ms P⟩ = fpD xs[i] := by show blkS _ ++ fpM _ = _; rw [flJ_fp]; rfl
        rw [this]
        exact (flat_split fpD xs i hix).symm
  · exact fun W h => (h.box i hix).1
set_option maxHeartbeats 1600000 in
set_option maxRecDepth 100000 in
theorem flagMessages_any (N gs : Nat) (v : Int) (l : List Bx) (s : SlQ) (xs : List Dx) (o : OpR) (p : SlO) (i : Nat) {lo : Nat} (w : World) (hS : Sh N w gs v l s xs) (hG : GdS v l) (hN : N ≤ w.heap.size) (hi : i < l.length) (hI : o.u.length = p.1.2.1 ∧ RdI w p.1.1 o.u) (hul : o.u.length ≤ 6) :
    Calls Tryz.prog 162 #[.pointer (some ⟨gs, 0, none⟩), opX o p, .int .i64 (i : Int)] w fun e w' => DeEnd N gs (flR v l i o.u o.m o.f) w e w' := by
  obtain ⟨ok, ox, ot, ou, om, of, od, ob⟩ := o
  have hb0 : Below w.heap.size w (w.alloc (.cells #[.int .i64 ok, .string ox, .string ot, slW p.1, .int .i64 om, .int .i64 of, .int .i64 od, slW p.2] 38)) := (Below.refl _ _).alloc (Nat.le_refl _) _
  have hQ0 := Qo.new w (.int .i64 ok) (.string ox) (.string ot) (slW p.1) (.int .i64 om) (.int .i64 of) (.int .i64 od) (slW p.2) 38
  have hS0 := hS.below hb0 (Nat.le_refl _)
  obtain ⟨hIl, hIr⟩ := hI
  dsimp only at hIl hIr hul
  have hI0 := hIr.below hb0
  have hbN := hb0.mono hN
  have hzN := Nat.le_trans hN hb0.size
  obtain ⟨a, cap, rfl, hxl, hlc, hcm, ha⟩ := hS.len
  obtain ⟨⟨hv1, hv2⟩, hl3, hGb⟩ := hG
  obtain ⟨⟨hx1, hx2⟩, hm6, -⟩ := hGb _ (nthX_mem hi)
  obtain ⟨gX, rfl⟩ : ∃ gX, a = some ⟨gX, 0, none⟩ := by
    rcases ha with ⟨-, h0⟩ | h0
    · rw [h0] at hi; simp at hi
    · exact h0
  obtain ⟨gX', e, hgl, c0, c1, c2, c3⟩ := hS0.2.1.1.row_at i (by omega)
  cases e
  obtain ⟨d0, d1⟩ := id hS0.1.1
  have hix : i < xs.length := by omega
  have hbx : nthX l i = xs[i].bx := (congrArg (fun l => nthX l i) hS.2.1.2.1.symm).trans (map_nthX hix)
  have hCB := hS0.2.1.box i hix
  obtain ⟨ma, mcap, hms, -, hmc, hmm, hma⟩ := hCB.form
  unfold maxLen at hcm hmm
  dsimp only [slW] at d0 d1
  rw [List.length_map] at hms hmc
  have hxm : (nthX l i).m.length = xs[i].ms.length := by rw [hbx]; simp [Dx.bx]
  have hmn : xs[i].ms.length ≤ 6 := by omega
  have hii : (i : Int) < (l.length : Int) := by omega
  obtain ⟨d, hd⟩ : ∃ d, xs[i] = d := ⟨_, rfl⟩
  obtain ⟨K1, K2, K3, K4, K5⟩ := flag_kit (N := N) (gs := gs) (gX := gX) (cap := cap) (v := v) (om := om) (of := of) (ou := ou) (w := w) hi hix d hd (hd ▸ hbx)
  rw [hd] at hmn hms hmc hma c0 c1 c2 c3
  have HFIN : Hid (_) := K1
  have HSTEP : Hid (_) := K2
  have HINI : Hid (_) := K3
  have HFPE : Hid (_) := K4
  have HHM : Hid (_) := K5
  have hms0 : ∀ k ∈ blkS ((some ⟨gX, 0, none⟩, l.length, cap) : SlQ) ++ fpX xs, k < w.heap.size := hS.2.1.1.lt
  clear hbx hxm hCB K1 K2 K3 K4 K5 hd
  obtain ⟨qn, qv, qx, qs, qm⟩ := d
  dsimp only at c0 c1 c2 c3 HFIN HSTEP HINI HFPE HHM hms hmc hma hmn
  subst hms
  have hL1 := psN_pw (fun k => hasZ ou (nthD qm k).m.u) qm.length
  have hL2 : ∀ k ∈ psN (fun k => hasZ ou (nthD qm k).m.u) qm.length, k < qm.length := fun k hk => psN_lt hk
  have hL3 := psN_len (fun k => hasZ ou (nthD qm k).m.u) qm.length
  have HTOLD : Hid (∀ (W : World) (g : Nat), HM W (ma, qm.length, mcap) qm → W.cell? ⟨g, 0, none⟩ = some (slW p.1) → RdI W p.1.1 ou → Calls Tryz.prog 193 #[slW (ma, qm.length, mcap), .func (.func 217) #[] #[.pointer (some ⟨g, 0, none⟩)]] W fun e w' => PlEnd (psZ (fun k => hasZ ou (nthD qm k).m.u) qm.length) W e w') := fun W g h1 h2 h3 => told_any p.1 ou _ qm g W h1 (by omega) h2 hIl h3 (by omega)
  obtain ⟨L, hLe⟩ : ∃ L, psN (fun k => hasZ ou (nthD qm k).m.u) qm.length = L := ⟨_, rfl⟩
  have hLz : psZ (fun k => hasZ ou (nthD qm k).m.u) qm.length = L.map (fun (k : Nat) => (k : Int)) := by unfold psZ; rw [hLe]
  rw [hLe] at HFIN hL1 hL2 hL3
  rw [hLz] at HFIN HTOLD
  clear hLe hLz
  dsimp only [opX]
  dsimp only [slW] at c3
  go_enter Tryz.func162, Tryz.ntmps162
  go_wp2_with fail
  generalize hWe : w.alloc (.cells #[.int .i64 ok, .string ox, .string ot, slW p.1, .int .i64 om, .int .i64 of, .int .i64 od, slW p.2] 38) = W at *
  have hWz : W.heap.size = w.heap.size + 1 := by rw [← hWe]; simp
  clear hWe
  refine (isTold_any p.1 W).mono ?_
  rintro e W1 ⟨rfl, rfl⟩
  have hb1 : Below W.heap.size W (W.alloc (.cells #[slW p.1] 25)) := (Below.refl _ _).alloc (Nat.le_refl _) _
  have hU1 : (W.alloc (.cells #[slW p.1] 25)).cell? ⟨w.heap.size + 1, 0, none⟩ = some (slW p.1) := by rw [← hWz]; simp
  have hQ1 := hQ0.below hb1 hQ0.lt
  have hS1 := hS0.below hb1 (Nat.le_refl _)
  have hI1 := hI0.below hb1
  have hbN1 := hbN.trans (hb1.mono hzN)
  have hzN1 := Nat.le_trans hzN hb1.size
  have hz1 : w.heap.size + 1 ≤ (W.alloc (.cells #[slW p.1] 25)).heap.size := by rw [← hWz]; exact hb1.size
  clear c0 c1 c2 c3 d0 d1 hQ0 hS0 hI0 hbN hzN hb1
  go_wp2_with fail
  generalize W.alloc (.cells #[slW p.1] 25) = W1 at *
  refine (HTOLD.out W1 (w.heap.size + 1) (HHM.out W1 hS1.2.1) hU1 hI1).mono ?_
  rintro e W2 ⟨sp, rfl, hO2, hge2, hb2⟩
  obtain ⟨pa, pn, pcap⟩ := sp
  obtain ⟨hp1, hp2, hp3⟩ := hO2.form
  dsimp only at hp1 hp2 hp3
  rw [List.length_map] at hp1 hp2
  unfold maxLen at hp3
  have hpl := hp1.symm
  rw [hpl] at hp2 hL3
  have HPL : Hid (L.length = pn) := hpl
  clear hp1 hpl
  have hQ2 := hQ1.below hb2 hQ1.lt
  have hS2 := hS1.below hb2 (Nat.le_refl _)
  have hbN2 := hbN1.trans (hb2.mono hzN1)
  have hzN2 := Nat.le_trans hzN1 hb2.size
  have hz2 := Nat.le_trans hz1 hb2.size
  have hC2 := HINI.out W2 hS2.2.1
  have hpo : ∀ k ∈ blkS ((pa, pn, pcap) : SlQ), k ∉ blkS ((some ⟨gX, 0, none⟩, l.length, cap) : SlQ) ++ fpX xs := fun k hk hc => by have h1 := hge2 k hk; have h2 := hms0 k hc; omega
  have hBo : w.heap.size ∉ blkS ((some ⟨gX, 0, none⟩, l.length, cap) : SlQ) ++ fpX xs := fun hc => absurd (hms0 _ hc) (Nat.lt_irrefl _)
  clear HTOLD HHM HINI hS1 hI1 hU1 hQ1 hb2 hbN1 hzN1 hIr
  dsimp only [slW]
  go_wp2
  go_loopw [9, 26] (fun u y wr => ∃ (j : Nat) (su : SlQ), j ≤ pn ∧ y = .int .i64 j ∧ u = slW su ∧
      CX N wr (some ⟨gX, 0, none⟩, l.length, cap) (l.set i (Dx.bx ⟨qn, qv, qx, (ma, qm.length, mcap), flJ om of qm ((L.take j).map fun (k : Nat) => (k : Int))⟩)) (xs.set i ⟨qn, qv, qx, (ma, qm.length, mcap), flJ om of qm ((L.take j).map fun (k : Nat) => (k : Int))⟩) ∧
      OwZ 2 wr su ((L.take j).map fun k => (nthD qm k).m.u) ∧ (∀ g ∈ blkS su, W2.heap.size ≤ g) ∧ Kx (blkS ((some ⟨gX, 0, none⟩, l.length, cap) : SlQ) ++ fpX xs) W2 wr) (fun _ y _ => pn - (intV y).toNat)
  case atStart => exact ⟨0, (none, 0, 0), Nat.zero_le _, rfl, rfl, hC2, OwZ.nil _ _, fun g hg => by simp [blkS] at hg, Kx.refl _ _⟩
  case round =>
    obtain ⟨j, su, hj, rfl, rfl, hC, hU, hge, hK⟩ := hrel
    by_cases hjn : j < pn
    · have hji : (j : Int) < (pn : Int) := by omega
      have hjL : j < L.length := by have := HPL.out; omega
      have hOp := hO2.keep (w' := wr) fun k hk => hK.block k (hO2.lt k hk) (hpo k hk)
      have hQ := hQ2.of_block (hK.block w.heap.size (by omega) hBo)
      obtain ⟨pg, poff, rfl, hpgl, hpc⟩ := hOp.rd.at_ (by rw [List.length_map]; omega)
      have cp := hpc j (by rw [List.length_map]; exact hjL)
      rw [nthI_get (by rw [List.length_map]; exact hjL), List.getElem_map] at cp
      have hkq := hL2 _ (List.getElem_mem hjL)
      have h0 : hasZ ((L.take j).map fun (k : Nat) => (k : Int)) ((L[j] : Nat) : Int) = false := by
        refine decide_eq_false (fun hm => ?_)
        obtain ⟨x, hx, e⟩ := List.mem_map.1 hm
        obtain ⟨y, hy, e'⟩ := List.mem_take_iff_getElem.1 hx
        have := List.pairwise_iff_getElem.1 hL1 y j (by omega) hjL (by omega)
        omega
      have HT : Hid (((L.take (j + 1)).map fun (k : Nat) => (k : Int)) = ((L.take j).map fun (k : Nat) => (k : Int)) ++ [((L[j] : Nat) : Int)] ∧ (L.take (j + 1)).map (fun k => (nthD qm k).m.u) = (L.take j).map (fun k => (nthD qm k).m.u) ++ [(nthD qm L[j]).m.u]) := by
        rw [List.take_succ_eq_append_getElem hjL, List.map_append, List.map_append]; exact ⟨rfl, rfl⟩
      have hul2 : ((L.take j).map fun k => (nthD qm k).m.u).length + 1 ≤ 1048576 := by rw [List.length_map, List.length_take]; omega
      clear hpc
      generalize L[j] = k at *
      obtain ⟨gm, rfl⟩ : ∃ gm, ma = some ⟨gm, 0, none⟩ := by
        rcases hma with ⟨-, h'⟩ | h'
        · rw [List.map_eq_nil_iff] at h'; rw [h'] at hkq; simp at hkq
        · exact h'
      have hki : (k : Int) < (qm.length : Int) := by omega
      go_wp2_with fail
      have hb3 : Below wr.heap.size wr wr.drew := (Below.refl _ _).drew
      have hC3 := hC.below hb3 (Nat.le_refl _)
      have hU3 := hU.below hb3 (Nat.le_refl _)
      have hQ3 := hQ.below hb3 hQ.lt
      have hK3 := hK.below hb3
      have hzN3 : N ≤ wr.drew.heap.size := Nat.le_trans hzN2 hK3.size
      clear hC hU hQ hK hb3 hOp
      refine wp_region_held_drew (S := fun w' => w'.cell? ⟨w.heap.size, 4, none⟩ = some (.int .i64 om) ∧ w'.cell? ⟨w.heap.size, 5, none⟩ = some (.int .i64 of)) (by kernel_rfl) ?hS1 (fun hHeld => ?_)
      case hS1 => exact ⟨hQ3.2.2.2.2.1, hQ3.2.2.2.2.2.1⟩
      refine tk (i := 0) (v := ?_) rfl (Or.inl ⟨by rfl, ?hy2⟩) ?ty2
      case hy2 => (intro w5 hSw; obtain ⟨p0, p1⟩ := hSw; go_simp; all_goals with_reducible rfl)
      simp only [Act.put, J1, J2, J4, J5, J6]
      refine tk (i := 1) (v := ?_) rfl (Or.inl ⟨by rfl, ?hy3⟩) ?ty3
      case hy3 => (intro w5 hSw; obtain ⟨p0, p1⟩ := hSw; go_simp; all_goals with_reducible rfl)
      simp only [Act.put, J1, J2, J3, J4, J5, J6]
      refine tk (i := 2) (v := ?_) rfl (Or.inl ⟨by rfl, ?hy4⟩) ?ty4
      case hy4 => (intro w5 hSw; obtain ⟨p0, p1⟩ := hSw; go_simp; all_goals with_reducible rfl)
      simp only [Act.put, J1, J2, J3, J4, J5, J6]
      refine tk (i := 3) (v := ?_) rfl (Or.inl ⟨by rfl, ?hy5⟩) ?ty5
      case hy5 => (intro w5 hSw; obtain ⟨p0, p1⟩ := hSw; go_simp; all_goals with_reducible rfl)
      simp only [Act.put, J1, J2, J3, J4, J5, J6]
      refine tk (i := 4) (v := ?_) rfl (Or.inl ⟨by rfl, ?hy6⟩) ?ty6
      case hy6 => (intro w5 hSw; obtain ⟨p0, p1⟩ := hSw; go_simp; all_goals with_reducible rfl)
      simp only [Act.put, J1, J2, J3, J4, J5, J6]
      refine tk (i := 5) (v := ?_) rfl (Or.inl ⟨by rfl, ?hy7⟩) ?ty7
      case hy7 => (intro w5 hSw; obtain ⟨p0, p1⟩ := hSw; go_simp; all_goals with_reducible rfl)
      simp only [Act.put, J1, J2, J3, J4, J5, J6]
      refine tk (i := 7) (v := ?_) rfl (Or.inl ⟨by rfl, ?hy8⟩) ?ty8
      case hy8 => (intro w5 hSw; obtain ⟨p0, p1⟩ := hSw; go_simp; all_goals with_reducible rfl)
      simp only [Act.put, J1, J2, J3, J4, J5, J6]
      refine tk (i := 8) (v := ?_) rfl (Or.inl ⟨by rfl, ?hy9⟩) ?ty9
      case hy9 => (intro w5 hSw; obtain ⟨p0, p1⟩ := hSw; go_simp; all_goals with_reducible rfl)
      simp only [Act.put, J1, J2, J3, J4, J5, J6]
      refine tk (i := 9) (v := ?_) rfl (Or.inl ⟨by rfl, ?hy10⟩) ?ty10
      case hy10 => (intro w5 hSw; obtain ⟨p0, p1⟩ := hSw; go_simp; all_goals with_reducible rfl)
      simp only [Act.put, J1, J2, J3, J4, J5, J6]
      refine tk (i := 10) (v := ?_) rfl (Or.inl ⟨by rfl, ?hy11⟩) ?ty11
      case hy11 => (intro w5 hSw; obtain ⟨p0, p1⟩ := hSw; go_simp; all_goals with_reducible rfl)
      simp only [Act.put, J1, J2, J3, J4, J5, J6]
      generalize wr.drew = Y0 at *
      obtain ⟨⟨m0, m1, mz⟩, hC4, hK4⟩ := HSTEP.out Y0 _ k hkq gm qm.length mcap h0 rfl hzN3 hC3
      refine wpAnyH_ready (rs := [6]) (by kernel_rfl) (by simp) ?_
      refine AllReadyH.cons rfl (fun K hK => ?_) AllReadyH.nil
      go_simp
      refine hK.out _ _ ⟨hQ3.2.2.2.2.1, hQ3.2.2.2.2.2.1⟩ (fun hHeld => ?_)
      clear hK K
      refine wpAnyH_ready (rs := [11]) (by kernel_rfl) (by simp) ?_
      refine AllReadyH.cons rfl (fun K hK => ?_) AllReadyH.nil
      go_simp
      refine (turned_any (nthD qm k).m.f om of Y0).mono ?_
      rintro e Y1 ⟨rfl, rfl⟩
      refine hK.out _ _ ⟨hQ3.2.2.2.2.1, hQ3.2.2.2.2.2.1⟩ (fun hHeld => ?_)
      clear hK K
      refine tk (i := 12) (v := ?_) rfl (Or.inl ⟨by rfl, ?hy12⟩) ?ty12
      case hy12 => (intro w5 hSw; obtain ⟨p0, p1⟩ := hSw; go_simp; all_goals with_reducible rfl)
      simp only [Act.put, J1, J2, J3, J4, J5, J6]
      refine tk (i := 13) (v := ?_) rfl (Or.inl ⟨by rfl, ?hy13⟩) ?ty13
      case hy13 => (intro w5 hSw; obtain ⟨p0, p1⟩ := hSw; go_simp; all_goals with_reducible rfl)
      simp only [Act.put, J1, J2, J3, J4, J5, J6]
      refine wpAnyH_ready (rs := [14]) (by kernel_rfl) (by simp) ?_
      refine AllReadyH.cons rfl (fun K hK => ?_) AllReadyH.nil
      have hgmf : gm ∈ blkS ((some ⟨gX, 0, none⟩, l.length, cap) : SlQ) ++ fpX xs := by rw [← HFPE.out ((L.take j).map fun (k : Nat) => (k : Int))]; exact List.mem_append_right _ (mem_flat_get (f := fpD) (l := xs.set i ⟨qn, qv, qx, (some ⟨gm, 0, none⟩, qm.length, mcap), flJ om of qm ((L.take j).map fun (k : Nat) => (k : Int))⟩) (i := i) (by rw [List.length_set]; exact hix) (by rw [List.getElem_set_self]; exact List.mem_append_left _ (by simp [blkS])))
      have hgm1 := hms0 gm hgmf
      have hQ4 := hQ3.far gm (k * 4 + 1) (.int .i64 (tuF (nthD qm k).m.f om of)) (by omega)
      have hU4 : OwZ 2 (Y0.setCell ⟨gm, k * 4 + 1, none⟩ (.int .i64 (tuF (nthD qm k).m.f om of))) su ((L.take j).map fun k => (nthD qm k).m.u) := hU3.keep fun g hg => Below.heap_setCell _ _ _ _ (fun e => by have := hge g hg; rw [show g = gm from e] at this; omega)
      have m0' : (Y0.setCell ⟨gm, k * 4 + 1, none⟩ (.int .i64 (tuF (nthD qm k).m.f om of))).cell? ⟨gm, k * 4, none⟩ = some (.int .i64 (nthD qm k).m.u) := (World.cell?_setCell_other _ _ _ _ (fun e => by injection e with _ e; omega)).trans m0
      have hK5 := hK3.trans hK4 (fun g hg => .inl hg)
      go_simp
      generalize World.setCell Y0 ⟨gm, k * 4 + 1, none⟩ (.int .i64 (tuF (nthD qm k).m.f om of)) = Y4 at *
      refine hK.out _ _ ⟨hQ4.2.2.2.2.1, hQ4.2.2.2.2.2.1⟩ (fun hHeld => ?_)
      clear hK K
      refine wpAnyH_done (by kernel_rfl) ?_ _
      clear hHeld hK4 hK3 hU3 hC3 hQ3 m0 m1 mz hzN3
      have hz5 : W2.heap.size ≤ Y4.heap.size := hK5.size
      have hb5 : Below Y4.heap.size Y4 (Y4.alloc (.cells #[.int .i64 (nthD qm k).m.u] 2)) := (Below.refl _ _).alloc (Nat.le_refl _) _
      have hC5 := hC4.below hb5 (Nat.le_refl _)
      have hU5 := hU4.below hb5 (Nat.le_refl _)
      have hK6 := hK5.below hb5
      have hz6 := Nat.le_trans hz5 hb5.size
      clear hC4 hU4 hK5 hb5 hQ4
      go_wp2_with (at_builtin; go_loud (refine app1 rfl _ _ 25 2 rfl Tryz.underlying25 infoZ64 su ((L.take j).map fun k => (nthD qm k).m.u) rfl hU5 Y4.heap.size (nthD qm k).m.u rfl (by simp) hul2 ?_; intro s6 Y6 hU6 hgr6 hloc6))
      have hK7 : Kx (blkS ((some ⟨gX, 0, none⟩, l.length, cap) : SlQ) ++ fpX xs) W2 Y6 := hK6.grown hgr6 (fun g hg => .inr (hge g (mem_blkS.2 hg)))
      have hge7 : ∀ g ∈ blkS s6, W2.heap.size ≤ g := fun g hg => by
        rcases hloc6 with e | e
        · exact hge g (e ▸ hg)
        · rw [e, List.mem_singleton] at hg; rw [hg]; exact hz6
      have HC7 : Hid (CX N Y6 (some ⟨gX, 0, none⟩, l.length, cap) (l.set i (Dx.bx ⟨qn, qv, qx, (some ⟨gm, 0, none⟩, qm.length, mcap), flJ om of qm ((L.take (j + 1)).map fun (k : Nat) => (k : Int))⟩)) (xs.set i ⟨qn, qv, qx, (some ⟨gm, 0, none⟩, qm.length, mcap), flJ om of qm ((L.take (j + 1)).map fun (k : Nat) => (k : Int))⟩)) := by
        rw [HT.out.1]
        refine ⟨hC5.1.keep fun g hg => hgr6.block g (hC5.1.lt g hg) (fun e => ?_), hC5.2⟩
        have h1 := hge g (mem_blkS.2 e.symm)
        rw [HFPE.out] at hg
        have h2 := hms0 g hg
        omega
      have HU7 : Hid (OwZ 2 Y6 s6 ((L.take (j + 1)).map fun k => (nthD qm k).m.u)) := by rw [HT.out.2]; exact hU6
      clear hU6 hgr6 hloc6 hC5 hU5 hK6
      go_wp2
      go_roundw
      case rel => exact ⟨j + 1, s6, by omega, by go_num, rfl, HC7.out, HU7.out, hge7, hK7⟩
      case measure => simp [intV, Go.RowKit.intOf]; omega
    · have hji : ¬ (j : Int) < (pn : Int) := by omega
      have hjt : L.take j = L := List.take_of_length_le (by have := HPL.out; omega)
      rw [hjt] at hC hU
      have hSf : Sh N wr gs v _ (some ⟨gX, 0, none⟩, l.length, cap) _ := hS2.turn hC (fun g hg => .inl (by rw [HFPE.out] at hg; exact hg)) hK
      have HE : Hid (_) := HFIN.out wr su hU hSf (fun g hg => ⟨by have := hge g hg; omega, by have := hge g hg; have := hS2.1.lt; omega, fun hc => by rw [HFPE.out] at hc; have h1 := hge g hg; have h2 := hms0 g hc; omega⟩) (hbN2.trans (hK.belowN hzN2 hS2.2.1.2.2.2))
      clear hC hU hSf
      go_wp2
      go_ret2
      exact HE.out
end Go.Proofs.YtejbbnpgghpgaaaGreatDoor
