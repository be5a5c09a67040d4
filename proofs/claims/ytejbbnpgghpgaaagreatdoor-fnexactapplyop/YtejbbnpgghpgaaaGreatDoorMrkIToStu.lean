/- The laws' helpers that write marks into an answer's numbers, look for them again, and hold two answers with numbers against each other, do what their texts say; at most 1048576 numbers · A row that grows by one leaves every row that is no longer as it was; no conditions beyond those that each fact names · The state while a message is put into a mailbox; no conditions beyond those that each fact names. -/
import Derived.Test.YtejbbnpgghpgaaaGreatDoorLhdToAppI
import Derived.Test.YtejbbnpgghpgaaaGreatDoorJfzToMrk0
import Derived.Handy
import Derived.Test.YtejbbnpgghpgaaaGreatDoorStqToLmk
namespace Go.Proofs.YtejbbnpgghpgaaaGreatDoor
open Go.RowKit

/-- The marks: n numbers from k on. -/
def marksI (n k : Nat) : List Int := (List.range n).map fun i => ((k + i : Nat) : Int)
theorem marksI_len (n k : Nat) : (marksI n k).length = n := by simp [marksI]
theorem marksI_nth {n k i : Nat} (h : i < n) : nthI (marksI n k) i = ((k + i : Nat) : Int) := by
  rw [nthI_get (by rw [marksI_len]; exact h)]; simp [marksI]
def mhalfI (l : List Int) (k i : Nat) : List Int := marksI i k ++ l.drop i
theorem mhalfI_zero (l : List Int) (k : Nat) : mhalfI l k 0 = l := by simp [mhalfI, marksI]
theorem mhalfI_all (l : List Int) (k : Nat) : mhalfI l k l.length = marksI l.length k := by simp [mhalfI]
theorem mhalfI_len (l : List Int) (k i : Nat) (h : i ≤ l.length) : (mhalfI l k i).length = l.length := by simp [mhalfI, marksI_len]; omega
theorem mhalfI_set (l : List Int) (k i : Nat) (h : i < l.length) : (ic (mhalfI l k i)).set i (.int .i64 ((k + i : Nat) : Int)) = ic (mhalfI l k (i + 1)) := by
  have hm : (ic (marksI i k)).length = i := by rw [ic_len, marksI_len]
  have e : marksI (i + 1) k = marksI i k ++ [((k + i : Nat) : Int)] := by simp [marksI, List.range_succ]
  unfold mhalfI
  rw [e, ic_app, List.set_append, hm, if_neg (Nat.lt_irrefl i), Nat.sub_self, drop_consI l i h]
  simp [ic]

set_option maxHeartbeats 1600000 in
set_option maxRecDepth 100000 in
theorem markInt64S_any (a : Option Addr) (n cap k B : Nat) (l : List Int) (w : World) (hown : OwnI w B (.slice a n cap) l) (hn : n ≤ 1048576) (hk : k ≤ 1048576) :
    Calls Tryz.prog 70 #[.slice a n cap, .int .i64 (k : Int)] w fun e w' =>
      e = .returned (.int .i64 ((k + n : Nat) : Int)) ∧ OwnI w' B (.slice a n cap) (marksI n k) ∧ w.grownBy w' (Value.slice a n cap).ownBlock := by
  obtain ⟨hl, hr⟩ := hown.rd
  go_enter Tryz.func70, Tryz.ntmps70
  go_wp2
  go_loopw [1, 5] (fun q i wr => ∃ j : Nat, j ≤ n ∧ i = .int .i64 j ∧ q = .int .i64 ((k + j : Nat) : Int) ∧ OwnI wr B (.slice a n cap) (mhalfI l k j) ∧ w.grownBy wr (Value.slice a n cap).ownBlock)
    (fun _ i _ => n - (intOf i).toNat)
  case atStart => exact ⟨0, Nat.zero_le _, rfl, rfl, by rw [mhalfI_zero]; exact hown, World.grownBy.refl _ _⟩
  case round =>
    obtain ⟨j, hj, rfl, rfl, hown', hgr⟩ := hrel
    clear hown
    by_cases hjn : j < n
    · obtain ⟨g, off, ha, _, hcell⟩ := hown'.rd.2.at_ (by rw [mhalfI_len _ _ _ (by omega)]; omega)
      obtain ⟨ad, hform⟩ : ∃ g', a = some ⟨g', 0, none⟩ := by
        rcases hown'.2 with ⟨h0, h1⟩ | ⟨g', cap', cur, h', _⟩
        · rw [mhalfI_len _ _ _ (by omega)] at h1; omega
        · simp at h'; exact ⟨g', h'.1⟩
      rw [ha] at hform
      obtain ⟨rfl, rfl⟩ : g = ad ∧ off = 0 := by simpa using hform
      subst ha
      have hlen : (mhalfI l k j).length = n := by rw [mhalfI_len _ _ _ (by omega)]; exact hl
      have ho2 : wr.ownsRow B 2 1 (.slice (some ⟨g, 0, none⟩) n cap) n (ic (mhalfI l k j)) := by have := hown'; unfold OwnI at this; rw [hlen] at this; exact this
      have hc : wr.cell? ⟨g, j, none⟩ = some (.int .i64 (nthI (mhalfI l k j) j)) := by have := hcell j (by omega); rw [Nat.zero_add] at this; exact this
      have hf := ho2.frozenAt j
      obtain ⟨hst, hgr2⟩ := ho2.stored j (.int .i64 ((k + j : Nat) : Int))
      rw [mhalfI_set l k j (by omega)] at hst
      have HO : Hid (OwnI (wr.setCell ⟨g, j, none⟩ (.int .i64 ((k + j : Nat) : Int))) B (.slice (some ⟨g, 0, none⟩) n cap) (mhalfI l k (j + 1))) := by
        show OwnI _ _ _ _
        unfold OwnI
        rw [mhalfI_len _ _ _ (by omega), hl]; exact hst
      have hgr3 : w.grownBy (wr.setCell ⟨g, j, none⟩ (.int .i64 ((k + j : Nat) : Int))) (some g) := ⟨hgr2.os.trans hgr.os, hgr2.tape.trans hgr.tape, hgr2.output.trans hgr.output, Nat.le_trans hgr.size hgr2.size, fun b hb hne => (hgr2.block b (Nat.lt_of_lt_of_le hb hgr.size) hne).trans (hgr.block b hb hne)⟩
      have e0 : ((k + j : Nat) : Int) = (k : Int) + (j : Int) := by omega
      rw [e0] at HO hgr3
      clear hst hgr2 ho2 hcell hown' hgr hform hr e0
      go_wp2
      go_roundw
      case rel => exact ⟨j + 1, by omega, by go_num, by go_num, HO.out, hgr3⟩
      case measure => simp [intOf]; omega
    · have hjj : j = n := by omega
      subst hjj
      rw [← hl, mhalfI_all, hl] at hown'
      go_wp2
      go_ret
      exact ⟨rfl, hown', hgr⟩

set_option maxHeartbeats 800000 in
set_option maxRecDepth 100000 in
theorem heldInt64S_any (a : Option Addr) (n cap k : Nat) (w : World) (hr : RdI w a (marksI n k)) (hn : n ≤ 1048576) (hk : k ≤ 1048576) :
    Calls Tryz.prog 72 #[.slice a n cap, .int .i64 (k : Int)] w fun e w' => e = .returned (.int .i64 ((k + n : Nat) : Int)) ∧ w = w' := by
  go_enter Tryz.func72, Tryz.ntmps72
  go_wp2
  go_loop [1, 5] (fun q i => ∃ j : Nat, j ≤ n ∧ i = .int .i64 j ∧ q = .int .i64 ((k + j : Nat) : Int)) (fun _ i => n - (intOf i).toNat)
  case atStart => exact ⟨0, Nat.zero_le _, rfl, rfl⟩
  case round =>
    obtain ⟨j, hj, rfl, rfl⟩ := hrel
    by_cases hjn : j < n
    · obtain ⟨b, off, rfl, hblt, hcell⟩ := hr.at_ (by rw [marksI_len]; omega)
      have hc := hcell j (by rw [marksI_len]; exact hjn)
      rw [marksI_nth hjn] at hc
      rw [show ((k + j : Nat) : Int) = (k : Int) + (j : Int) by omega] at hc
      clear hcell hr
      go_wp2
      go_round
      case rel => exact ⟨j + 1, by omega, by go_num, by go_num⟩
      case measure => simp [intOf]; omega
    · have hjj : j = n := by omega
      subst hjj
      go_wp2
      go_ret
      exact ⟨rfl, rfl⟩

end Go.Proofs.YtejbbnpgghpgaaaGreatDoor

namespace Go.Proofs.YtejbbnpgghpgaaaGreatDoor
open Go.RowKit
set_option linter.unusedVariables false

theorem step4k {w : World} {ops : Array Oper} {o : Oper} {a : Act} {K : Act → World → Prop} {Q : Exit → Act → World → Prop} {E : Prop} (hgd : o.guard = none) (s x : Operand) (t e : TypeId)
    (ho : o.op = .call { callee := .builtin .append, args := #[s, x], argTypes := #[t, t] }) (z : Value) (nb : Nat) (hz4 : z.cells.size = 4) (hnb : nb ≤ 64)
    (ht : Tryz.prog.underlying t = some (.slice e)) (hinfo : (Tryz.prog.info? e).map (fun i => (i.zero, i.size, i.bytes)) = some (some z, 4, nb))
    (sl : SlQ) (l : List Qd) (hs : a.eval s = slW sl) (hown : w.ownsRow 0 e 4 (slW sl) l.length (qc l)) (g : Nat) (q : Qd) (hx : a.eval x = .slice (some ⟨g, 0, none⟩) 1 1) (hq : Qc w g q) (h1 : One4 q)
    (hsz : l.length + 1 ≤ 1048576)
    (h : ∀ (s' : SlQ) w1, w1.ownsRow 0 e 4 (slW s') (l ++ [q]).length (qc (l ++ [q])) → w.grownBy w1 (slW sl).ownBlock → (blkS s' = blkS sl ∨ blkS s' = [w.heap.size]) → (∀ (sl0 : SlQ) (e0 n0 : Nat) (x0 : List Value), n0 ≤ l.length → w.ownsRow 0 e0 4 (slW sl0) n0 x0 → w1.ownsRow 0 e0 4 (slW sl0) n0 x0) → K (a.put o.dst (slW s')) w1) : if Region.wanted o (yielded ops a.tmps) = true then Oper.wp Tryz.prog o a w K Q else E := by
  have hw : Region.wanted o (yielded ops a.tmps) = true := by simp [Region.wanted, hgd]
  rw [if_pos hw]
  obtain ⟨i0, hi, hz0, hz1, hz2⟩ := info_parts hinfo
  obtain ⟨q0, q1, q2, q3⟩ := hq
  have hnews : ∀ j u, (qc [q])[j]? = some u → w.cell? ((⟨g, 0, none⟩ : Addr).add j) = some u := by
    intro j u hj
    rw [Go.WideShapes.add_plain, Nat.zero_add]
    have hjl : j < 4 := by
      rcases Nat.lt_or_ge j 4 with hlt | hge
      · exact hlt
      · rw [List.getElem?_eq_none (by show 4 ≤ j; exact hge)] at hj; cases hj
    obtain rfl | rfl | rfl | rfl : j = 0 ∨ j = 1 ∨ j = 2 ∨ j = 3 := by omega
    · cases hj; exact q0
    · cases hj; exact q1
    · cases hj; exact q2
    · cases hj; exact q3
  have hone : ∀ u ∈ qc [q], u.oneCell' = true := by
    intro u hu
    have hu' : u ∈ [q.1, q.2.1, q.2.2.1, q.2.2.2] := hu
    simp only [List.mem_cons, List.not_mem_nil, or_false] at hu'
    rcases hu' with rfl | rfl | rfl | rfl
    · exact h1.1
    · exact h1.2.1
    · exact h1.2.2.1
    · exact h1.2.2.2
  have hbytes : (l.length + 1) * nb ≤ 140737488355328 := Nat.le_trans (Nat.mul_le_mul hsz hnb) (by decide)
  obtain ⟨v', w1, hr, hown', hgr, -, hat⟩ := run_append_own_at (P := Tryz.prog) w 0 t o.type e i0 z 4 nb ht hi hz0 hz1 hz2 hz4 (by decide) (slW sl) l.length (qc l) hown ⟨g, 0, none⟩ 1 1 (qc [q]) rfl hnews hone (by unfold maxLen; omega) hbytes (Nat.zero_le _)
  have hold : ∀ (sl0 : SlQ) (e0 n0 : Nat) (x0 : List Value), n0 ≤ l.length → w.ownsRow 0 e0 4 (slW sl0) n0 x0 → w1.ownsRow 0 e0 4 (slW sl0) n0 x0 := by
    intro sl0 e0 n0 x0 hn0 h0
    rcases hown.2 with ⟨hv, hn⟩ | ⟨g1, cap, cur, hv, hb1, hg1, hnc, hcm, hcs, htake⟩
    · exact row_keep h0 fun k hk => hgr.block k ((h0.lt k hk).2) (fun hc => by rw [hv] at hc; cases hc)
    · by_cases hne : (slW sl0).ownBlock = some g1
      · by_cases hroom : l.length + 1 ≤ cap
        · have hfit : l.length * i0.size + (qc [q]).length ≤ cur.size := by rw [hz1, hcs]; show l.length * 4 + 4 ≤ cap * 4; omega
          have hr2 := run_append_room (P := Tryz.prog) w t o.type e i0 ht hi g1 l.length cap cur hg1 ⟨g, 0, none⟩ 1 1 (qc [q]) (by rw [hz1]; rfl) hnews hone hroom hfit
          rw [hv] at hr
          rw [hr] at hr2
          injection hr2 with e1 e2
          rcases h0.2 with ⟨e', h00⟩ | ⟨g2, c2, cur2, e', hb2, hg2, hnc2, hcm2, hcs2, htake2⟩
          · rw [e'] at hne; cases hne
          · rw [e'] at hne
            obtain rfl : g2 = g1 := by injection hne
            rw [hg1] at hg2
            injection hg2 with hg2
            injection hg2 with hc hE _
            subst hc hE
            refine ⟨h0.1, .inr ⟨g2, c2, _, e', hb2, by rw [e2]; exact setRow_heap w g2 cur _ e _ hg1, hnc2, hcm2, ?_, ?_⟩⟩
            · rw [← hcs2, hz1]
              simp only [List.size_toArray, List.length_append, List.length_take, List.length_drop, Array.length_toList]
              rw [hz1] at hfit
              have : (qc [q]).length = 4 := rfl
              omega
            · rw [← htake2, hz1]
              have hm : n0 * 4 ≤ l.length * 4 := Nat.mul_le_mul_right 4 hn0
              have h5 : cur.toList.length = cap * 4 := Array.length_toList.trans hcs
              have hl4 : l.length * 4 ≤ cur.toList.length := by omega
              rw [List.append_assoc, List.take_append_of_le_length (by rw [List.length_take]; omega), List.take_take, Nat.min_eq_left hm]
        · have holds : ∀ j u, (qc l)[j]? = some u → w.cell? ((⟨g1, 0, none⟩ : Addr).add j) = some u := by rw [hv] at hown; exact hown.cells (g := g1) rfl
          have hr2 := run_append_grow (P := Tryz.prog) w t o.type e i0 z ht hi hz0 ⟨g1, 0, none⟩ l.length cap (qc l) (by rw [hz1]; exact hown.1) holds ⟨g, 0, none⟩ 1 1 (qc [q]) (by rw [hz1]; rfl) hnews (by omega) (by omega) (by rw [hz2]; exact growslice_fits (by omega) hbytes)
          rw [hv] at hr
          rw [hr] at hr2
          injection hr2 with e1 e2
          exact row_keep h0 fun k hk => by rw [e2]; exact _root_.Go.heap_alloc_old w.drew _ (h0.lt k hk).2
      · refine row_keep h0 fun k hk => hgr.block k ((h0.lt k hk).2) (fun hc => hne (by rw [hv] at hc; rw [hk, hc]; rfl))
  unfold Oper.wp execOp
  simp only [ho, resolve, invoke, builtin, Sem.run_bind, Sem.run_pure, Result.andThen_ok, List.map_toArray, List.map_cons, List.map_nil, hs, hx, hr]
  obtain ⟨s', rfl, -⟩ := row_form hown'
  refine h s' w1 ?_ hgr ?_ hold
  · rw [qcA, List.length_append]; exact hown'
  · rw [blkS_own, blkS_own]
    rcases hat with hat | hat
    · exact .inl (by rw [hat])
    · exact .inr (by rw [hat]; rfl)
end Go.Proofs.YtejbbnpgghpgaaaGreatDoor

namespace Go.Proofs.YtejbbnpgghpgaaaGreatDoor
open Go.RowKit
set_option linter.unusedVariables false

/-- Rows of unlike kinds lie in unlike blocks. -/
theorem row_ne {w : World} {B B' e e' k k' n n' : Nat} {v v' : Value} {xs xs' : List Value} (h : w.ownsRow B e k v n xs) (h' : w.ownsRow B' e' k' v' n' xs') (hne : e ≠ e') {g : Nat} (hg : v.ownBlock = some g) : v'.ownBlock ≠ some g := by
  intro hg'
  rcases h.2 with ⟨rfl, _⟩ | ⟨g1, c1, cur1, rfl, _, hb1, _⟩
  · cases hg
  · rcases h'.2 with ⟨rfl, _⟩ | ⟨g2, c2, cur2, rfl, _, hb2, _⟩
    · cases hg'
    · obtain rfl : g1 = g := by injection hg
      obtain rfl : g2 = g1 := by injection hg'
      rw [hb1] at hb2
      injection hb2 with hb2
      injection hb2 with _ h _
      exact hne h
theorem tyBM : (128 : Nat) ≠ 136 := by decide
theorem tyUM : (5 : Nat) ≠ 136 := by decide
theorem tyUB : (5 : Nat) ≠ 128 := by decide
/-- Messages stay where a cell of a row of mailboxes is written. -/
theorem HM.setX {w : World} {s sl : SlQ} {n : Nat} {xs : List Value} {ms : List Dm} (h : HM w sl ms) (hr : w.ownsRow 0 128 4 (slW s) n xs) {g : Nat} (hg : g ∈ blkS s) (j : Nat) (u : Value) : HM (w.setCell ⟨g, j, none⟩ u) sl ms := by
  refine h.far g j u (fun hc => ?_)
  rcases List.mem_append.1 hc with hc | hc
  · exact row_ne hr h.1 tyBM (mem_blkS.1 hg) (mem_blkS.1 hc)
  · obtain ⟨d, hd, hc⟩ := List.mem_flatMap.1 hc
    exact row_ne (h.2 d hd).1 hr tyUB (mem_blkS.1 hc) (mem_blkS.1 hg)

/-- THE STATE OF A PUTTING: the row of mailboxes, the messages of one of them, what else has changed, and every row of messages that is no longer. -/
structure PS (fp : List Nat) (M : SlQ → List Dm → Prop) (w Y : World) (s sm : SlQ) (n : Nat) (ql : List Qd) (ms : List Dm) : Prop where
  row : Y.ownsRow 0 128 4 (slW s) n (qc ql)
  hm : HM Y sm ms
  k : Kx fp w Y
  old : ∀ sl0 ms0, M sl0 ms0 → HM w sl0 ms0 → HM Y sl0 ms0
theorem PS.below {fp : List Nat} {M : SlQ → List Dm → Prop} {n : Nat} {w Y Y' : World} {s sm : SlQ} {ql : List Qd} {ms : List Dm} (h : PS fp M w Y s sm n ql ms) (hb : Below Y.heap.size Y Y') : PS fp M w Y' s sm n ql ms :=
  ⟨row_keep h.row fun g hg => hb.block g (h.row.lt g hg).2, h.hm.below hb (Nat.le_refl _), h.k.below hb, fun sl0 ms0 h1 h2 => (h.old sl0 ms0 h1 h2).below hb (Nat.le_refl _)⟩
/-- A cell of a new block is written. -/
theorem PS.far {fp : List Nat} {M : SlQ → List Dm → Prop} {n : Nat} {w Y : World} {s sm : SlQ} {ql : List Qd} {ms : List Dm} (h : PS fp M w Y s sm n ql ms) (B j : Nat) (u : Value) (hB : w.heap.size ≤ B) (hlt : ∀ g ∈ blkS s ++ (blkS sm ++ fpM ms), g < w.heap.size) : PS fp M w (Y.setCell ⟨B, j, none⟩ u) s sm n ql ms :=
  ⟨row_keep h.row fun g hg => Below.heap_setCell _ _ _ _ (fun e => by have := hlt g (List.mem_append_left _ (mem_blkS.2 hg)); rw [show g = B from e] at this; omega),
   h.hm.far B j u (fun hc => by have := hlt B (List.mem_append_right _ hc); omega),
   h.k.set B j u (.inr hB),
   fun sl0 ms0 h1 h2 => (h.old sl0 ms0 h1 h2).far B j u (fun hc => by have := h2.lt B hc; omega)⟩
/-- One message is put behind the others. -/
theorem PS.app {fp : List Nat} {M : SlQ → List Dm → Prop} {n : Nat} {w Y Y1 : World} {s sm s2 sd : SlQ} {ql : List Qd} {ms : List Dm} {m : Msg} (h : PS fp M w Y s sm n ql ms) (hM : ∀ sl0 ms0, M sl0 ms0 → ms0.length ≤ ms.length ∨ ∀ g ∈ blkS sl0, g ∉ blkS sm) (hfp : ∀ g ∈ blkS sm, g ∈ fp) (hsm : ∀ g ∈ blkS s, g ∉ blkS sm) (hnd : (blkS sm ++ fpM ms).Nodup)
    (hOB : OwB Y sd m.b) (hof : ∀ g ∈ blkS sd, g ∉ blkS sm ++ fpM ms)
    (hrow : Y1.ownsRow 0 136 4 (slW s2) (ms.map Dm.q ++ [(⟨m, sd⟩ : Dm).q]).length (qc (ms.map Dm.q ++ [(⟨m, sd⟩ : Dm).q]))) (hgr : Y.grownBy Y1 (slW sm).ownBlock) (hloc : blkS s2 = blkS sm ∨ blkS s2 = [Y.heap.size])
    (hold : ∀ (sl0 : SlQ) (e0 n0 : Nat) (x0 : List Value), n0 ≤ (ms.map Dm.q).length → Y.ownsRow 0 e0 4 (slW sl0) n0 x0 → Y1.ownsRow 0 e0 4 (slW sl0) n0 x0) :
    PS fp M w Y1 s s2 n ql (ms ++ [⟨m, sd⟩]) ∧ (blkS s2 ++ fpM (ms ++ [⟨m, sd⟩])).Nodup ∧ ∀ g ∈ blkS s2 ++ fpM (ms ++ [⟨m, sd⟩]), g ∈ blkS sm ++ fpM ms ∨ g ∈ blkS sd ∨ g = Y.heap.size := by
  have hnd' : (blkS sm ++ fpM (ms ++ [⟨m, sd⟩])).Nodup := by
    rw [show fpM (ms ++ [⟨m, sd⟩]) = fpM ms ++ blkS sd from flat_snoc _ _ _, ← List.append_assoc]
    exact nd_app hnd (blkS_nodup _) (fun g hg hc => hof g hc hg)
  obtain ⟨a1, a2, a3⟩ := h.hm.snoc hnd' hOB hrow hgr hloc
  refine ⟨⟨row_keep h.row fun g hg => hgr.block g (h.row.lt g hg).2 (fun e => hsm g (mem_blkS.2 hg) (mem_blkS.2 e.symm)), a1, h.k.grown hgr (fun g hg => .inl (hfp g (mem_blkS.2 hg))), fun sl0 ms0 h1 h2 => ?_⟩, a2, fun g hg => ?_⟩
  · have h3 := h.old sl0 ms0 h1 h2
    refine ⟨(hM sl0 ms0 h1).elim (fun h4 => hold sl0 _ _ _ (by rw [List.length_map]; omega) h3.1) (fun h4 => row_keep h3.1 fun g hg => hgr.block g (h3.1.lt g hg).2 (fun e => h4 g (mem_blkS.2 hg) (mem_blkS.2 e.symm))), fun d hd => (h3.2 d hd).keep fun g hg => hgr.block g ((h3.2 d hd).lt g hg) (fun e => ?_)⟩
    exact row_ne (h3.2 d hd).1 h.hm.1 tyUM (mem_blkS.1 hg) e.symm
  · rcases a3 g hg with hg | hg
    · rw [show fpM (ms ++ [⟨m, sd⟩]) = fpM ms ++ blkS sd from flat_snoc _ _ _, ← List.append_assoc] at hg
      rcases List.mem_append.1 hg with hg | hg
      · exact .inl hg
      · exact .inr (.inl hg)
    · exact .inr (.inr hg)
/-- A cell of the mailbox is written. -/
theorem PS.set3 {fp : List Nat} {M : SlQ → List Dm → Prop} {n g i cap : Nat} {w Y : World} {sm : SlQ} {ql : List Qd} {ms : List Dm} (h : PS fp M w Y (some ⟨g, 0, none⟩, n, cap) sm n ql ms) (hi : i < ql.length) (hg : g ∈ fp) (u : Value) : PS fp M w (Y.setCell ⟨g, i * 4 + 3, none⟩ u) (some ⟨g, 0, none⟩, n, cap) sm n (ql.set i ((nthQ ql i).1, (nthQ ql i).2.1, (nthQ ql i).2.2.1, u)) ms :=
  ⟨row_set3 h.row hi u, h.hm.setX h.row (by simp [blkS]) _ u, h.k.set g _ u (.inl hg), fun sl0 ms0 h1 h2 => (h.old sl0 ms0 h1 h2).setX h.row (by simp [blkS]) _ u⟩
theorem PS.set2 {fp : List Nat} {M : SlQ → List Dm → Prop} {n g i cap : Nat} {w Y : World} {sm : SlQ} {ql : List Qd} {ms : List Dm} (h : PS fp M w Y (some ⟨g, 0, none⟩, n, cap) sm n ql ms) (hi : i < ql.length) (hg : g ∈ fp) (u : Value) : PS fp M w (Y.setCell ⟨g, i * 4 + 2, none⟩ u) (some ⟨g, 0, none⟩, n, cap) sm n (ql.set i ((nthQ ql i).1, (nthQ ql i).2.1, u, (nthQ ql i).2.2.2)) ms :=
  ⟨row_set2 h.row hi u, h.hm.setX h.row (by simp [blkS]) _ u, h.k.set g _ u (.inl hg), fun sl0 ms0 h1 h2 => (h.old sl0 ms0 h1 h2).setX h.row (by simp [blkS]) _ u⟩

/-- What a mailbox is with one message more. -/
def putB (b : Bx) (f d : Int) (c : List Nat) : Bx := ⟨b.n, b.v, b.x + 1, b.m ++ [⟨b.x, f, d, c⟩]⟩
def dxZ : Dx := ⟨ByteArray.empty, 0, 0, (none, 0, 0), []⟩
def nthE (l : List Dx) (i : Nat) : Dx := l.getD i dxZ
theorem nthE_get {l : List Dx} {i : Nat} (h : i < l.length) : nthE l i = l[i] := by unfold nthE; rw [List.getD_eq_getElem?_getD, List.getElem?_eq_getElem h]; rfl
/-- Rows of messages that a putting leaves: no longer ones, or ones that lie elsewhere. -/
def PdM (n : Nat) (sm : SlQ) (sl0 : SlQ) (ms0 : List Dm) : Prop := ms0.length ≤ n ∨ ∀ g ∈ blkS sl0, g ∉ blkS sm
/-- How a putting ends. -/
def PutEnd (N : Nat) (s : SlQ) (l : List Bx) (xs : List Dx) (i : Nat) (f d : Int) (c : List Nat) (w : World) (e : Ending) (w' : World) : Prop :=
  ∃ d', e = .returned (.int .i64 (nthX l i).x) ∧ CX N w' s (l.set i (putB (nthX l i) f d c)) (xs.set i d') ∧ (∀ g ∈ blkS s ++ fpX (xs.set i d'), g ∈ blkS s ++ fpX xs ∨ w.heap.size ≤ g) ∧ Kx (blkS s ++ fpX xs) w w' ∧ (∀ sl0 ms0, PdM (nthX l i).m.length (nthE xs i).s sl0 ms0 → HM w sl0 ms0 → HM w' sl0 ms0) ∧ (blkS d'.s = blkS (nthE xs i).s ∨ ∀ g ∈ blkS d'.s, w.heap.size ≤ g)
/-- The state at the end is that of the store. -/
theorem PS.fin {M : SlQ → List Dm → Prop} {N n i : Nat} {w Y : World} {s s2 : SlQ} {l : List Bx} {xs : List Dx} {ql : List Qd} {d0 d' : Dx} (hC : CX N w s l xs) (hi : i < xs.length) (he : xs[i] = d0) (hn : xs.length = n) (hN : N ≤ w.heap.size) (h : PS (blkS s ++ fpD d0) M w Y s s2 n ql d'.ms) (hs : d'.s = s2)
    (hql : ql = (xs.map Dx.q).set i d'.q) (hdn : (fpD d').Nodup) (hf : ∀ g ∈ fpD d', g ∈ fpD d0 ∨ w.heap.size ≤ g) :
    CX N Y s (l.set i d'.bx) (xs.set i d') ∧ (∀ g ∈ blkS s ++ fpX (xs.set i d'), g ∈ blkS s ++ fpX xs ∨ w.heap.size ≤ g) ∧ Kx (blkS s ++ fpX xs) w Y := by
  subst he hs hn
  obtain ⟨a, b⟩ := hC.upd i hi d' (by rw [← hql]; exact h.row) h.hm hdn hf h.k hN
  refine ⟨a, b, h.k.mono fun g hg => .inl ?_⟩
  rcases List.mem_append.1 hg with hg | hg
  · exact List.mem_append_left _ hg
  · exact List.mem_append_right _ (mem_flat_get hi hg)
end Go.Proofs.YtejbbnpgghpgaaaGreatDoor
