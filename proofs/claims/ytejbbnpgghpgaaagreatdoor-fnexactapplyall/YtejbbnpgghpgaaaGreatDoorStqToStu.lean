/- A mailbox of a store is changed where it lies; no conditions beyond those that each fact names · A row that grows by one leaves every row that is no longer as it was; no conditions beyond those that each fact names · The state while a message is put into a mailbox; no conditions beyond those that each fact names. -/
import Derived.Test.YtejbbnpgghpgaaaGreatDoorStp
namespace Go.Proofs.YtejbbnpgghpgaaaGreatDoor
open Go.RowKit
set_option linter.unusedVariables false
structure Kx (fp : List Nat) (w w' : World) : Prop where
  os : w'.os = w.os
  tape : w'.tape = w.tape
  output : w'.output = w.output
  size : w.heap.size ≤ w'.heap.size
  block : ∀ g, g < w.heap.size → g ∉ fp → w'.heap[g]? = w.heap[g]?
theorem Kx.refl (fp : List Nat) (w : World) : Kx fp w w := ⟨rfl, rfl, rfl, Nat.le_refl _, fun _ _ _ => rfl⟩
theorem Kx.trans {fp fp1 : List Nat} {w w1 w2 : World} (h : Kx fp w w1) (h1 : Kx fp1 w1 w2) (hs : ∀ g ∈ fp1, g ∈ fp ∨ w.heap.size ≤ g) : Kx fp w w2 :=
  ⟨h1.os.trans h.os, h1.tape.trans h.tape, h1.output.trans h.output, Nat.le_trans h.size h1.size, fun g hg hn => (h1.block g (Nat.lt_of_lt_of_le hg h.size) (fun hc => by rcases hs g hc with h' | h'; exact hn h'; omega)).trans (h.block g hg hn)⟩
theorem Kx.of_below {fp : List Nat} {w w' : World} (hb : Below w.heap.size w w') : Kx fp w w' := ⟨hb.os, hb.tape, hb.output, hb.size, fun g hg _ => hb.block g hg⟩
theorem Kx.belowN {fp : List Nat} {w w' : World} (h : Kx fp w w') {N : Nat} (hN : N ≤ w.heap.size) (hf : ∀ g ∈ fp, N ≤ g) : Below N w w' := ⟨h.os, h.tape, h.output, h.size, fun g hg => h.block g (by omega) (fun hc => by have := hf g hc; omega)⟩
theorem Kx.grown {fp : List Nat} {w w1 w2 : World} (h : Kx fp w w1) {r : Option Nat} (hg : w1.grownBy w2 r) (hr : ∀ g, r = some g → g ∈ fp ∨ w.heap.size ≤ g) : Kx fp w w2 :=
  ⟨hg.os.trans h.os, hg.tape.trans h.tape, hg.output.trans h.output, Nat.le_trans h.size hg.size, fun g hgl hn => (hg.block g (Nat.lt_of_lt_of_le hgl h.size) (fun e => by rcases hr g e.symm with h' | h'; exact hn h'; omega)).trans (h.block g hgl hn)⟩
theorem Kx.below {fp : List Nat} {w w1 w2 : World} (h : Kx fp w w1) (hb : Below w1.heap.size w1 w2) : Kx fp w w2 := h.trans (fp1 := []) (.of_below hb) (fun g hg => by simp at hg)
theorem Kx.set {fp : List Nat} {w w1 : World} (h : Kx fp w w1) (g j : Nat) (u : Value) (hg : g ∈ fp ∨ w.heap.size ≤ g) : Kx fp w (w1.setCell ⟨g, j, none⟩ u) :=
  h.grown (r := some g) ⟨rfl, rfl, rfl, by simp, fun k hk hn => Below.heap_setCell _ _ _ _ (fun e => hn (by rw [show k = g from e]))⟩ (fun k e => by cases e; exact hg)
theorem Kx.mono {fp fp1 : List Nat} {w w1 : World} (h : Kx fp w w1) (hs : ∀ g ∈ fp, g ∈ fp1 ∨ w.heap.size ≤ g) : Kx fp1 w w1 := ⟨h.os, h.tape, h.output, h.size, fun g hg hn => h.block g hg (fun hc => by rcases hs g hc with h' | h'; exact hn h'; omega)⟩
theorem row_set0 {w : World} {e g n cap : Nat} {l : List Qd} (h : w.ownsRow 0 e 4 (.slice (some ⟨g, 0, none⟩) n cap) n (qc l)) {i : Nat} (hi : i < l.length) (u : Value) : (w.setCell ⟨g, i * 4, none⟩ u).ownsRow 0 e 4 (.slice (some ⟨g, 0, none⟩) n cap) n (qc (l.set i (u, (nthQ l i).2.1, (nthQ l i).2.2.1, (nthQ l i).2.2.2))) := by
  rw [← qc_set0 l i u hi]; exact (h.stored (i * 4) u).1
theorem row_set1 {w : World} {e g n cap : Nat} {l : List Qd} (h : w.ownsRow 0 e 4 (.slice (some ⟨g, 0, none⟩) n cap) n (qc l)) {i : Nat} (hi : i < l.length) (u : Value) : (w.setCell ⟨g, i * 4 + 1, none⟩ u).ownsRow 0 e 4 (.slice (some ⟨g, 0, none⟩) n cap) n (qc (l.set i ((nthQ l i).1, u, (nthQ l i).2.2.1, (nthQ l i).2.2.2))) := by
  rw [← qc_set1 l i u hi]; exact (h.stored (i * 4 + 1) u).1
theorem row_set2 {w : World} {e g n cap : Nat} {l : List Qd} (h : w.ownsRow 0 e 4 (.slice (some ⟨g, 0, none⟩) n cap) n (qc l)) {i : Nat} (hi : i < l.length) (u : Value) : (w.setCell ⟨g, i * 4 + 2, none⟩ u).ownsRow 0 e 4 (.slice (some ⟨g, 0, none⟩) n cap) n (qc (l.set i ((nthQ l i).1, (nthQ l i).2.1, u, (nthQ l i).2.2.2))) := by
  rw [← qc_set2 l i u hi]; exact (h.stored (i * 4 + 2) u).1
theorem row_set3 {w : World} {e g n cap : Nat} {l : List Qd} (h : w.ownsRow 0 e 4 (.slice (some ⟨g, 0, none⟩) n cap) n (qc l)) {i : Nat} (hi : i < l.length) (u : Value) : (w.setCell ⟨g, i * 4 + 3, none⟩ u).ownsRow 0 e 4 (.slice (some ⟨g, 0, none⟩) n cap) n (qc (l.set i ((nthQ l i).1, (nthQ l i).2.1, (nthQ l i).2.2.1, u))) := by
  rw [← qc_set3 l i u hi]; exact (h.stored (i * 4 + 3) u).1
theorem nthQ_set {l : List Qd} {i : Nat} (hi : i < l.length) (q : Qd) : nthQ (l.set i q) i = q := by rw [nthQ_get (by rw [List.length_set]; exact hi), List.getElem_set_self]
theorem set_set {l : List Qd} {i : Nat} (p q : Qd) : (l.set i p).set i q = l.set i q := List.set_set p
theorem CX.upd {N : Nat} {w w' : World} {s : SlQ} {l : List Bx} {xs : List Dx} (h : CX N w s l xs) (i : Nat) (hi : i < xs.length) (d' : Dx) (hrow : w'.ownsRow 0 128 4 (slW s) xs.length (qc ((xs.map Dx.q).set i d'.q))) (hd : HM w' d'.s d'.ms)
    (hdn : (fpD d').Nodup) (hf : ∀ g ∈ fpD d', g ∈ fpD xs[i] ∨ w.heap.size ≤ g) (hK : Kx (blkS s ++ fpD xs[i]) w w') (hN : N ≤ w.heap.size) :
    CX N w' s (l.set i d'.bx) (xs.set i d') ∧ ∀ g ∈ blkS s ++ fpX (xs.set i d'), g ∈ blkS s ++ fpX xs ∨ w.heap.size ≤ g := by
  have hlt := h.1.lt
  have hmem : ∀ g ∈ blkS s ++ fpX (xs.set i d'), g ∈ blkS s ++ fpX xs ∨ w.heap.size ≤ g := fun g hg => by
    rcases List.mem_append.1 hg with hg | hg
    · exact .inl (List.mem_append_left _ hg)
    · rcases flat_mem_set hi hg with hg | hg
      · exact .inl (List.mem_append_right _ hg)
      · rcases hf g hg with hg | hg
        · exact .inl (List.mem_append_right _ (mem_flat_get hi hg))
        · exact .inr hg
  refine ⟨⟨h.1.upd i d' hrow hd (fun j hj hne g hg => hK.block g (hlt g (List.mem_append_right _ (mem_flat_get hj hg))) (fun hc => ?_)), by rw [List.map_set, h.2.1], nd_set hi h.2.2.1 hlt hdn hf, fun g hg => ?_⟩, hmem⟩
  · rcases List.mem_append.1 hc with hc | hc
    · exact nd_off h.2.2.1 hc (mem_flat_get hj hg)
    · exact nd_other (nd_right h.2.2.1) hi hj hne hg hc
  · rcases hmem g hg with hg | hg
    · exact h.2.2.2 g hg
    · omega
theorem CX.box {N : Nat} {w : World} {s : SlQ} {l : List Bx} {xs : List Dx} (h : CX N w s l xs) (i : Nat) (hi : i < xs.length) : CM N w xs[i].s (xs[i].ms.map Dm.m) xs[i].ms :=
  ⟨h.1.2 _ (List.getElem_mem hi), rfl, by have h1 := nd_right h.2.2.1; rw [show fpX xs = _ from flat_split fpD xs i hi] at h1; exact nd_left (nd_right h1), fun g hg => h.2.2.2 g (List.mem_append_right _ (mem_flat_get hi hg))⟩
theorem CX.off {N : Nat} {w : World} {s : SlQ} {l : List Bx} {xs : List Dx} (h : CX N w s l xs) (i : Nat) (hi : i < xs.length) {g : Nat} (hg : g ∈ blkS s) : g ∉ fpD xs[i] := fun hc => nd_off h.2.2.1 hg (mem_flat_get hi hc)
end Go.Proofs.YtejbbnpgghpgaaaGreatDoor
namespace Go.Proofs.YtejbbnpgghpgaaaGreatDoor
open Go.RowKit
set_option linter.unusedVariables false
theorem step4k {w : World} {ops : Array Oper} {o : Oper} {a : Act} {K : Act → World → Prop} {Q : Exit → Act → World → Prop} {E : Prop} (hgd : o.guard = none) (s x : Operand) (t e : TypeId)
    (ho : o.op = .call { callee := .builtin .append, args := #[s, x], argTypes := #[t, t] }) (z : Value) (nb : Nat) (hz4 : z.cells.size = 4) (hnb : nb ≤ 64)
    (ht : Tryz.prog.underlying t = some (.slice e)) (hinfo : (Tryz.prog.info? e).map (fun i => (i.zero, i.size, i.bytes)) = some (some z, 4, nb))
    (sl : SlQ) (l : List Qd) (hs : a.eval s = slW sl) (hown : w.ownsRow 0 e 4 (slW sl) l.length (qc l)) (g : Nat) (q : Qd) (hx : a.eval x = .slice (some ⟨g, 0, none⟩) 1 1) (hq : Qc w g q) (h1 : One4 q)
    (hsz : l.length + 1 ≤ 1048576)
    (h : ∀ (s' : SlQ) w1, w1.ownsRow 0 e 4 (slW s') (l ++ [q]).length (qc (l ++ [q])) → w.grownBy w1 (slW sl).ownBlock → (blkS s' = blkS sl ∨ blkS s' = [w.heap.size]) → (∀ (sl0 : SlQ) (e0 n0 : Nat) (x0 : List Value), n0 ≤ l.length → w.ownsRow 0 e0 4 (slW sl0) n0 x0 → w1.ownsRow 0 e0 4 (slW sl0) n0 x0) → K (a.put o.dst (slW s')) w1) : if Region.wanted o (yielded ops a.tmps) = true then Oper.wp Tryz.prog o a w K Q else E := by
  have hw : Region.wanted o (yielded ops a.tmps) = true := by simp [Region.wanted, hgd]
  rw [if_pos hw]
  obtain ⟨i0, hi, hz0, hz1, hz2⟩ := info_parts hinfo
  obtain ⟨q0, q1, q2, q3⟩ := hq
  have hnews : ∀ j u, (qc [q])[j]? = some u → w.cell? ((⟨g, 0, none⟩ : Addr).add j) = some u := by
    intro j u hj
    rw [Go.WideShapes.add_plain, Nat.zero_add]
    have hjl : j < 4 := by
      rcases Nat.lt_or_ge j 4 with hlt | hge
      · exact hlt
      · rw [List.getElem?_eq_none (by show 4 ≤ j; exact hge)] at hj; cases hj
    obtain rfl | rfl | rfl | rfl : j = 0 ∨ j = 1 ∨ j = 2 ∨ j = 3 := by omega
    · cases hj; exact q0
    · cases hj; exact q1
    · cases hj; exact q2
    · cases hj; exact q3
  have hone : ∀ u ∈ qc [q], u.oneCell' = true := by
    intro u hu
    have hu' : u ∈ [q.1, q.2.1, q.2.2.1, q.2.2.2] := hu
    simp only [List.mem_cons, List.not_mem_nil, or_false] at hu'
    rcases hu' with rfl | rfl | rfl | rfl
    · exact h1.1
    · exact h1.2.1
    · exact h1.2.2.1
    · exact h1.2.2.2
  have hbytes : (l.length + 1) * nb ≤ 140737488355328 := Nat.le_trans (Nat.mul_le_mul hsz hnb) (by decide)
  obtain ⟨v', w1, hr, hown', hgr, -, hat⟩ := run_append_own_at (P := Tryz.prog) w 0 t o.type e i0 z 4 nb ht hi hz0 hz1 hz2 hz4 (by decide) (slW sl) l.length (qc l) hown ⟨g, 0, none⟩ 1 1 (qc [q]) rfl hnews hone (by unfold maxLen; omega) hbytes (Nat.zero_le _)
  have hold : ∀ (sl0 : SlQ) (e0 n0 : Nat) (x0 : List Value), n0 ≤ l.length → w.ownsRow 0 e0 4 (slW sl0) n0 x0 → w1.ownsRow 0 e0 4 (slW sl0) n0 x0 := by
    intro sl0 e0 n0 x0 hn0 h0
    rcases hown.2 with ⟨hv, hn⟩ | ⟨g1, cap, cur, hv, hb1, hg1, hnc, hcm, hcs, htake⟩
    · exact row_keep h0 fun k hk => hgr.block k ((h0.lt k hk).2) (fun hc => by rw [hv] at hc; cases hc)
    · by_cases hne : (slW sl0).ownBlock = some g1
      · by_cases hroom : l.length + 1 ≤ cap
        · have hfit : l.length * i0.size + (qc [q]).length ≤ cur.size := by rw [hz1, hcs]; show l.length * 4 + 4 ≤ cap * 4; omega
          have hr2 := run_append_room (P := Tryz.prog) w t o.type e i0 ht hi g1 l.length cap cur hg1 ⟨g, 0, none⟩ 1 1 (qc [q]) (by rw [hz1]; rfl) hnews hone hroom hfit
          rw [hv] at hr
          rw [hr] at hr2
          injection hr2 with e1 e2
          rcases h0.2 with ⟨e', h00⟩ | ⟨g2, c2, cur2, e', hb2, hg2, hnc2, hcm2, hcs2, htake2⟩
          · rw [e'] at hne; cases hne
          · rw [e'] at hne
            obtain rfl : g2 = g1 := by injection hne
            rw [hg1] at hg2
            injection hg2 with hg2
            injection hg2 with hc hE _
            subst hc hE
            refine ⟨h0.1, .inr ⟨g2, c2, _, e', hb2, by rw [e2]; exact setRow_heap w g2 cur _ e _ hg1, hnc2, hcm2, ?_, ?_⟩⟩
            · rw [← hcs2, hz1]
              simp only [List.size_toArray, List.length_append, List.length_take, List.length_drop, Array.length_toList]
              rw [hz1] at hfit
              have : (qc [q]).length = 4 := rfl
              omega
            · rw [← htake2, hz1]
              have hm : n0 * 4 ≤ l.length * 4 := Nat.mul_le_mul_right 4 hn0
              have h5 : cur.toList.length = cap * 4 := Array.length_toList.trans hcs
              have hl4 : l.length * 4 ≤ cur.toList.length := by omega
              rw [List.append_assoc, List.take_append_of_le_length (by rw [List.length_take]; omega), List.take_take, Nat.min_eq_left hm]
        · have holds : ∀ j u, (qc l)[j]? = some u → w.cell? ((⟨g1, 0, none⟩ : Addr).add j) = some u := by rw [hv] at hown; exact hown.cells (g := g1) rfl
          have hr2 := run_append_grow (P := Tryz.prog) w t o.type e i0 z ht hi hz0 ⟨g1, 0, none⟩ l.length cap (qc l) (by rw [hz1]; exact hown.1) holds ⟨g, 0, none⟩ 1 1 (qc [q]) (by rw [hz1]; rfl) hnews (by omega) (by omega) (by rw [hz2]; exact growslice_fits (by omega) hbytes)
          rw [hv] at hr
          rw [hr] at hr2
          injection hr2 with e1 e2
          exact row_keep h0 fun k hk => by rw [e2]; exact _root_.Go.heap_alloc_old w.drew _ (h0.lt k hk).2
      · refine row_keep h0 fun k hk => hgr.block k ((h0.lt k hk).2) (fun hc => hne (by rw [hv] at hc; rw [hk, hc]; rfl))
  unfold Oper.wp execOp
  simp only [ho, resolve, invoke, builtin, Sem.run_bind, Sem.run_pure, Result.andThen_ok, List.map_toArray, List.map_cons, List.map_nil, hs, hx, hr]
  obtain ⟨s', rfl, -⟩ := row_form hown'
  refine h s' w1 ?_ hgr ?_ hold
  · rw [qcA, List.length_append]; exact hown'
  · rw [blkS_own, blkS_own]
    rcases hat with hat | hat
    · exact .inl (by rw [hat])
    · exact .inr (by rw [hat]; rfl)
end Go.Proofs.YtejbbnpgghpgaaaGreatDoor
namespace Go.Proofs.YtejbbnpgghpgaaaGreatDoor
open Go.RowKit
set_option linter.unusedVariables false
theorem row_ne {w : World} {B B' e e' k k' n n' : Nat} {v v' : Value} {xs xs' : List Value} (h : w.ownsRow B e k v n xs) (h' : w.ownsRow B' e' k' v' n' xs') (hne : e ≠ e') {g : Nat} (hg : v.ownBlock = some g) : v'.ownBlock ≠ some g := by
  intro hg'
  rcases h.2 with ⟨rfl, _⟩ | ⟨g1, c1, cur1, rfl, _, hb1, _⟩
  · cases hg
  · rcases h'.2 with ⟨rfl, _⟩ | ⟨g2, c2, cur2, rfl, _, hb2, _⟩
    · cases hg'
    · obtain rfl : g1 = g := by injection hg
      obtain rfl : g2 = g1 := by injection hg'
      rw [hb1] at hb2
      injection hb2 with hb2
      injection hb2 with _ h _
      exact hne h
theorem tyBM : (128 : Nat) ≠ 136 := by decide
theorem tyUM : (5 : Nat) ≠ 136 := by decide
theorem tyUB : (5 : Nat) ≠ 128 := by decide
theorem HM.setX {w : World} {s sl : SlQ} {n : Nat} {xs : List Value} {ms : List Dm} (h : HM w sl ms) (hr : w.ownsRow 0 128 4 (slW s) n xs) {g : Nat} (hg : g ∈ blkS s) (j : Nat) (u : Value) : HM (w.setCell ⟨g, j, none⟩ u) sl ms := by
  refine h.far g j u (fun hc => ?_)
  rcases List.mem_append.1 hc with hc | hc
  · exact row_ne hr h.1 tyBM (mem_blkS.1 hg) (mem_blkS.1 hc)
  · obtain ⟨d, hd, hc⟩ := List.mem_flatMap.1 hc
    exact row_ne (h.2 d hd).1 hr tyUB (mem_blkS.1 hc) (mem_blkS.1 hg)
structure PS (fp : List Nat) (M : SlQ → List Dm → Prop) (w Y : World) (s sm : SlQ) (n : Nat) (ql : List Qd) (ms : List Dm) : Prop where
  row : Y.ownsRow 0 128 4 (slW s) n (qc ql)
  hm : HM Y sm ms
  k : Kx fp w Y
  old : ∀ sl0 ms0, M sl0 ms0 → HM w sl0 ms0 → HM Y sl0 ms0
theorem PS.below {fp : List Nat} {M : SlQ → List Dm → Prop} {n : Nat} {w Y Y' : World} {s sm : SlQ} {ql : List Qd} {ms : List Dm} (h : PS fp M w Y s sm n ql ms) (hb : Below Y.heap.size Y Y') : PS fp M w Y' s sm n ql ms :=
  ⟨row_keep h.row fun g hg => hb.block g (h.row.lt g hg).2, h.hm.below hb (Nat.le_refl _), h.k.below hb, fun sl0 ms0 h1 h2 => (h.old sl0 ms0 h1 h2).below hb (Nat.le_refl _)⟩
theorem PS.far {fp : List Nat} {M : SlQ → List Dm → Prop} {n : Nat} {w Y : World} {s sm : SlQ} {ql : List Qd} {ms : List Dm} (h : PS fp M w Y s sm n ql ms) (B j : Nat) (u : Value) (hB : w.heap.size ≤ B) (hlt : ∀ g ∈ blkS s ++ (blkS sm ++ fpM ms), g < w.heap.size) : PS fp M w (Y.setCell ⟨B, j, none⟩ u) s sm n ql ms :=
  ⟨row_keep h.row fun g hg => Below.heap_setCell _ _ _ _ (fun e => by have := hlt g (List.mem_append_left _ (mem_blkS.2 hg)); rw [show g = B from e] at this; omega),
   h.hm.far B j u (fun hc => by have := hlt B (List.mem_append_right _ hc); omega),
   h.k.set B j u (.inr hB),
   fun sl0 ms0 h1 h2 => (h.old sl0 ms0 h1 h2).far B j u (fun hc => by have := h2.lt B hc; omega)⟩
theorem PS.app {fp : List Nat} {M : SlQ → List Dm → Prop} {n : Nat} {w Y Y1 : World} {s sm s2 sd : SlQ} {ql : List Qd} {ms : List Dm} {m : Msg} (h : PS fp M w Y s sm n ql ms) (hM : ∀ sl0 ms0, M sl0 ms0 → ms0.length ≤ ms.length ∨ ∀ g ∈ blkS sl0, g ∉ blkS sm) (hfp : ∀ g ∈ blkS sm, g ∈ fp) (hsm : ∀ g ∈ blkS s, g ∉ blkS sm) (hnd : (blkS sm ++ fpM ms).Nodup)
    (hOB : OwB Y sd m.b) (hof : ∀ g ∈ blkS sd, g ∉ blkS sm ++ fpM ms)
    (hrow : Y1.ownsRow 0 136 4 (slW s2) (ms.map Dm.q ++ [(⟨m, sd⟩ : Dm).q]).length (qc (ms.map Dm.q ++ [(⟨m, sd⟩ : Dm).q]))) (hgr : Y.grownBy Y1 (slW sm).ownBlock) (hloc : blkS s2 = blkS sm ∨ blkS s2 = [Y.heap.size])
    (hold : ∀ (sl0 : SlQ) (e0 n0 : Nat) (x0 : List Value), n0 ≤ (ms.map Dm.q).length → Y.ownsRow 0 e0 4 (slW sl0) n0 x0 → Y1.ownsRow 0 e0 4 (slW sl0) n0 x0) :
    PS fp M w Y1 s s2 n ql (ms ++ [⟨m, sd⟩]) ∧ (blkS s2 ++ fpM (ms ++ [⟨m, sd⟩])).Nodup ∧ ∀ g ∈ blkS s2 ++ fpM (ms ++ [⟨m, sd⟩]), g ∈ blkS sm ++ fpM ms ∨ g ∈ blkS sd ∨ g = Y.heap.size := by
  have hnd' : (blkS sm ++ fpM (ms ++ [⟨m, sd⟩])).Nodup := by
    rw [show fpM (ms ++ [⟨m, sd⟩]) = fpM ms ++ blkS sd from flat_snoc _ _ _, ← List.append_assoc]
    exact nd_app hnd (blkS_nodup _) (fun g hg hc => hof g hc hg)
  obtain ⟨a1, a2, a3⟩ := h.hm.snoc hnd' hOB hrow hgr hloc
  refine ⟨⟨row_keep h.row fun g hg => hgr.block g (h.row.lt g hg).2 (fun e => hsm g (mem_blkS.2 hg) (mem_blkS.2 e.symm)), a1, h.k.grown hgr (fun g hg => .inl (hfp g (mem_blkS.2 hg))), fun sl0 ms0 h1 h2 => ?_⟩, a2, fun g hg => ?_⟩
  · have h3 := h.old sl0 ms0 h1 h2
    refine ⟨(hM sl0 ms0 h1).elim (fun h4 => hold sl0 _ _ _ (by rw [List.length_map]; omega) h3.1) (fun h4 => row_keep h3.1 fun g hg => hgr.block g (h3.1.lt g hg).2 (fun e => h4 g (mem_blkS.2 hg) (mem_blkS.2 e.symm))), fun d hd => (h3.2 d hd).keep fun g hg => hgr.block g ((h3.2 d hd).lt g hg) (fun e => ?_)⟩
    exact row_ne (h3.2 d hd).1 h.hm.1 tyUM (mem_blkS.1 hg) e.symm
  · rcases a3 g hg with hg | hg
    · rw [show fpM (ms ++ [⟨m, sd⟩]) = fpM ms ++ blkS sd from flat_snoc _ _ _, ← List.append_assoc] at hg
      rcases List.mem_append.1 hg with hg | hg
      · exact .inl hg
      · exact .inr (.inl hg)
    · exact .inr (.inr hg)
theorem PS.set3 {fp : List Nat} {M : SlQ → List Dm → Prop} {n g i cap : Nat} {w Y : World} {sm : SlQ} {ql : List Qd} {ms : List Dm} (h : PS fp M w Y (some ⟨g, 0, none⟩, n, cap) sm n ql ms) (hi : i < ql.length) (hg : g ∈ fp) (u : Value) : PS fp M w (Y.setCell ⟨g, i * 4 + 3, none⟩ u) (some ⟨g, 0, none⟩, n, cap) sm n (ql.set i ((nthQ ql i).1, (nthQ ql i).2.1, (nthQ ql i).2.2.1, u)) ms :=
  ⟨row_set3 h.row hi u, h.hm.setX h.row (by simp [blkS]) _ u, h.k.set g _ u (.inl hg), fun sl0 ms0 h1 h2 => (h.old sl0 ms0 h1 h2).setX h.row (by simp [blkS]) _ u⟩
theorem PS.set2 {fp : List Nat} {M : SlQ → List Dm → Prop} {n g i cap : Nat} {w Y : World} {sm : SlQ} {ql : List Qd} {ms : List Dm} (h : PS fp M w Y (some ⟨g, 0, none⟩, n, cap) sm n ql ms) (hi : i < ql.length) (hg : g ∈ fp) (u : Value) : PS fp M w (Y.setCell ⟨g, i * 4 + 2, none⟩ u) (some ⟨g, 0, none⟩, n, cap) sm n (ql.set i ((nthQ ql i).1, (nthQ ql i).2.1, u, (nthQ ql i).2.2.2)) ms :=
  ⟨row_set2 h.row hi u, h.hm.setX h.row (by simp [blkS]) _ u, h.k.set g _ u (.inl hg), fun sl0 ms0 h1 h2 => (h.old sl0 ms0 h1 h2).setX h.row (by simp [blkS]) _ u⟩
def putB (b : Bx) (f d : Int) (c : List Nat) : Bx := ⟨b.n, b.v, b.x + 1, b.m ++ [⟨b.x, f, d, c⟩]⟩
def dxZ : Dx := ⟨ByteArray.empty, 0, 0, (none, 0, 0), []⟩
def nthE (l : List Dx) (i : Nat) : Dx := l.getD i dxZ
theorem nthE_get {l : List Dx} {i : Nat} (h : i < l.length) : nthE l i = l[i] := by unfold nthE; rw [List.getD_eq_getElem?_getD, List.getElem?_eq_getElem h]; rfl
def PdM (n : Nat) (sm : SlQ) (sl0 : SlQ) (ms0 : List Dm) : Prop := ms0.length ≤ n ∨ ∀ g ∈ blkS sl0, g ∉ blkS sm
def PutEnd (N : Nat) (s : SlQ) (l : List Bx) (xs : List Dx) (i : Nat) (f d : Int) (c : List Nat) (w : World) (e : Ending) (w' : World) : Prop :=
  ∃ d', e = .returned (.int .i64 (nthX l i).x) ∧ CX N w' s (l.set i (putB (nthX l i) f d c)) (xs.set i d') ∧ (∀ g ∈ blkS s ++ fpX (xs.set i d'), g ∈ blkS s ++ fpX xs ∨ w.heap.size ≤ g) ∧ Kx (blkS s ++ fpX xs) w w' ∧ (∀ sl0 ms0, PdM (nthX l i).m.length (nthE xs i).s sl0 ms0 → HM w sl0 ms0 → HM w' sl0 ms0) ∧ (blkS d'.s = blkS (nthE xs i).s ∨ ∀ g ∈ blkS d'.s, w.heap.size ≤ g)
theorem PS.fin {M : SlQ → List Dm → Prop} {N n i : Nat} {w Y : World} {s s2 : SlQ} {l : List Bx} {xs : List Dx} {ql : List Qd} {d0 d' : Dx} (hC : CX N w s l xs) (hi : i < xs.length) (he : xs[i] = d0) (hn : xs.length = n) (hN : N ≤ w.heap.size) (h : PS (blkS s ++ fpD d0) M w Y s s2 n ql d'.ms) (hs : d'.s = s2)
    (hql : ql = (xs.map Dx.q).set i d'.q) (hdn : (fpD d').Nodup) (hf : ∀ g ∈ fpD d', g ∈ fpD d0 ∨ w.heap.size ≤ g) :
    CX N Y s (l.set i d'.bx) (xs.set i d') ∧ (∀ g ∈ blkS s ++ fpX (xs.set i d'), g ∈ blkS s ++ fpX xs ∨ w.heap.size ≤ g) ∧ Kx (blkS s ++ fpX xs) w Y := by
  subst he hs hn
  obtain ⟨a, b⟩ := hC.upd i hi d' (by rw [← hql]; exact h.row) h.hm hdn hf h.k hN
  refine ⟨a, b, h.k.mono fun g hg => .inl ?_⟩
  rcases List.mem_append.1 hg with hg | hg
  · exact List.mem_append_left _ hg
  · exact List.mem_append_right _ (mem_flat_get hi hg)
end Go.Proofs.YtejbbnpgghpgaaaGreatDoor
