/- What an op on a store gives is small: few Uids, few mailboxes, few messages of few bytes; no program in it · The marks of an op that the law turned, whether two results of an op on a store are the same; no conditions beyond those that each fact names. -/
import Derived.Test.YtejbbnpgghpgaaaGreatDoorDdi
import Derived.Test.YtejbbnpgghpgaaaGreatDoorLto
namespace Go.Proofs.YtejbbnpgghpgaaaGreatDoor
open Go.RowKit

/-- A mailbox that is small. -/
def BdB (n : Nat) (b : Bx) : Prop := b.n.size ≤ 1048576 ∧ b.m.length ≤ n ∧ ∀ m ∈ b.m, m.b.length ≤ 400
def BdL (n : Nat) (l : List Bx) : Prop := l.length ≤ 4 ∧ ∀ b ∈ l, BdB n b
/-- An answer that is small. -/
def BdR (r : Rs) : Prop := r.2.1.length ≤ 12 ∧ BdL 12 r.2.2.2
theorem BdB.mono {n n' : Nat} {b : Bx} (h : BdB n b) (hn : n ≤ n') : BdB n' b := ⟨h.1, Nat.le_trans h.2.1 hn, h.2.2⟩
theorem BdL.mono {n n' : Nat} {l : List Bx} (h : BdL n l) (hn : n ≤ n') : BdL n' l := ⟨h.1, fun b hb => (h.2 b hb).mono hn⟩
theorem BdL.nth {n : Nat} {l : List Bx} (h : BdL n l) (i : Nat) : BdB n (nthX l i) := by
  by_cases hi : i < l.length
  · exact h.2 _ (nthX_mem hi)
  · unfold nthX
    rw [List.getD_eq_getElem?_getD, List.getElem?_eq_none (by omega)]
    exact ⟨by decide, Nat.zero_le _, fun m hm => by simp at hm⟩
theorem BdL.set {n : Nat} {l : List Bx} (h : BdL n l) (i : Nat) {b : Bx} (hb : BdB n b) : BdL n (l.set i b) := by
  refine ⟨by rw [List.length_set]; exact h.1, fun c hc => ?_⟩
  rcases List.mem_or_eq_of_mem_set hc with h' | h'
  · exact h.2 c h'
  · rw [h']; exact hb
theorem BdR.bad (c : Int) : BdR (badR c) := ⟨Nat.zero_le _, Nat.zero_le _, fun b hb => by simp [badR] at hb⟩
theorem BdB.put {n : Nat} {b : Bx} (h : BdB n b) (f d : Int) {c : List Nat} (hc : c.length ≤ 400) : BdB (n + 1) (putB b f d c) := by
  refine ⟨h.1, by simp [putB]; exact h.2.1, fun m hm => ?_⟩
  simp only [putB, List.mem_append, List.mem_singleton] at hm
  rcases hm with h' | h'
  · exact h.2.2 m h'
  · rw [h']; exact hc
theorem BdB.puts : ∀ (sel : List Msg) {n : Nat} {b : Bx}, BdB n b → (∀ m ∈ sel, m.b.length ≤ 400) → BdB (n + sel.length) (putsB b sel)
  | [], n, b, h, _ => h
  | m :: sel, n, b, h, hs => by
    have h1 := BdB.puts sel (h.put m.f m.d (hs m (by simp))) (fun x hx => hs x (by simp [hx]))
    have e : putsB b (m :: sel) = putsB (putB b m.f m.d m.b) sel := rfl
    rw [e]
    exact h1.mono (by simp; omega)
theorem BdB.filt {n : Nat} {b : Bx} (h : BdB n b) (p : Msg → Bool) : BdB n ⟨b.n, b.v, b.x, b.m.filter p⟩ := ⟨h.1, Nat.le_trans (List.length_filter_le _ _) h.2.1, fun m hm => h.2.2 m (List.mem_filter.1 hm).1⟩
theorem BdB.map {n : Nat} {b : Bx} (h : BdB n b) (f : Msg → Msg) (hf : ∀ m, (f m).b = m.b) : BdB n ⟨b.n, b.v, b.x, b.m.map f⟩ := by
  refine ⟨h.1, by simp; exact h.2.1, fun m hm => ?_⟩
  obtain ⟨x, hx, rfl⟩ := List.mem_map.1 hm
  rw [hf]; exact h.2.2 x hx
theorem cpR_bd {v : Int} {l : List Bx} (h : BdL 6 l) (i : Nat) (us : List Int) (nm : ByteArray) : BdR (cpR v l i us nm) := by
  unfold cpR
  split
  · exact .bad _
  · split
    · have hs : (selM us (nthX l i).m).length ≤ 6 := Nat.le_trans (List.length_filter_le _ _) (h.nth i).2.1
      refine ⟨by rw [idsZ_len]; omega, (h.mono (by omega)).set _ (((h.nth _).puts (selM us (nthX l i).m) (fun m hm => (h.nth i).2.2 m (List.mem_filter.1 hm).1)).mono (by omega))⟩
    · exact .bad _
theorem kdR_bd {v : Int} {l : List Bx} {o : OpR} (h : BdL 6 l) (hl : l.length ≤ 3) (hx : o.x.size ≤ 1048576) (hb : o.b.length ≤ 400) (j : Int) : BdR (kdR v l o j) := by
  unfold kdR
  split
  · unfold mkR
    split
    · exact .bad _
    · split
      · exact .bad _
      · refine ⟨Nat.zero_le _, by simp; omega, fun b hm => ?_⟩
        rcases List.mem_append.1 hm with h' | h'
        · exact (h.2 b h').mono (by omega)
        · rw [List.mem_singleton.1 h']
          exact ⟨hx, Nat.zero_le _, fun m hm => by simp at hm⟩
  · split
    · exact ⟨Nat.zero_le _, Nat.le_trans (List.length_eraseIdx_le _ _) h.1, fun b hm => (h.2 b (List.mem_of_mem_eraseIdx hm)).mono (by omega)⟩
    · split
      · unfold adR
        split
        · exact ⟨by simp, (h.mono (by omega)).set _ (((h.nth _).put _ _ hb).mono (by omega))⟩
        · exact .bad _
      · split
        · exact ⟨by unfold flR; dsimp only; rw [List.length_map]; exact Nat.le_trans (Nat.le_trans (List.length_filter_le _ _) (h.nth _).2.1) (by omega), (h.mono (by omega)).set _ (((h.nth _).map _ (fun m => by unfold flM; split <;> rfl)).mono (by omega))⟩
        · split
          · exact cpR_bd h _ _ _
          · split
            · unfold mvR
              split
              · exact .bad _
              · split
                · have hc := cpR_bd (v := v) h j.toNat o.u o.t
                  exact ⟨hc.1, hc.2.set _ (((h.nth _).filt _).mono (by omega))⟩
                · exact .bad _
            · exact ⟨by unfold puR; dsimp only; rw [List.length_map]; exact Nat.le_trans (Nat.le_trans (List.length_filter_le _ _) (h.nth _).2.1) (by omega), (h.mono (by omega)).set _ (((h.nth _).filt _).mono (by omega))⟩
/-- WHAT AN OP GIVES IS SMALL. -/
theorem aoR_bd {v : Int} {l : List Bx} {o : OpR} (hf : FtXs l) (hx : o.x.size ≤ 1048576) : BdR (aoR v l o) := by
  unfold aoR
  split
  · rename_i h0
    have hG := stV_good h0
    have hB : BdL 6 l := ⟨by have := hG.2.1; omega, fun b hb => by
      obtain ⟨i, hi, rfl⟩ := List.getElem_of_mem hb
      have h1 := (hf.2 i hi).1
      rw [nthX_get hi] at h1
      have h2 := hG.2.2 _ (List.getElem_mem hi)
      exact ⟨h1, h2.2.1, fun m hm => (h2.2.2 m hm).2⟩⟩
    unfold apR
    split
    · rename_i ho
      split
      · exact .bad _
      · exact kdR_bd hB hG.2.1 hx (ofV_zero ho).2.2.1 _
    · exact .bad _
  · exact .bad _
end Go.Proofs.YtejbbnpgghpgaaaGreatDoor

namespace Go.Proofs.YtejbbnpgghpgaaaGreatDoor
open Go.RowKit
set_option linter.unusedVariables false

set_option maxHeartbeats 1600000 in
set_option maxRecDepth 100000 in
theorem markInt64S_l (a : Option Addr) (n cap k B : Nat) (l : List Int) (w : World) (hown : OwnI w B (.slice a n cap) l) (hn : n ≤ 1048576) (hk : k ≤ 8388608) :
    Calls Tryz.prog 70 #[.slice a n cap, .int .i64 (k : Int)] w fun e w' =>
      e = .returned (.int .i64 ((k + n : Nat) : Int)) ∧ OwnI w' B (.slice a n cap) (marksI n k) ∧ w.grownBy w' (Value.slice a n cap).ownBlock := by
  obtain ⟨hl, hr⟩ := hown.rd
  go_enter Tryz.func70, Tryz.ntmps70
  go_wp2
  go_loopw [1, 5] (fun q i wr => ∃ j : Nat, j ≤ n ∧ i = .int .i64 j ∧ q = .int .i64 ((k + j : Nat) : Int) ∧ OwnI wr B (.slice a n cap) (mhalfI l k j) ∧ w.grownBy wr (Value.slice a n cap).ownBlock)
    (fun _ i _ => n - (intOf i).toNat)
  case atStart => exact ⟨0, Nat.zero_le _, rfl, rfl, by rw [mhalfI_zero]; exact hown, World.grownBy.refl _ _⟩
  case round =>
    obtain ⟨j, hj, rfl, rfl, hown', hgr⟩ := hrel
    clear hown
    by_cases hjn : j < n
    · obtain ⟨g, off, ha, _, hcell⟩ := hown'.rd.2.at_ (by rw [mhalfI_len _ _ _ (by omega)]; omega)
      obtain ⟨ad, hform⟩ : ∃ g', a = some ⟨g', 0, none⟩ := by
        rcases hown'.2 with ⟨h0, h1⟩ | ⟨g', cap', cur, h', _⟩
        · rw [mhalfI_len _ _ _ (by omega)] at h1; omega
        · simp at h'; exact ⟨g', h'.1⟩
      rw [ha] at hform
      obtain ⟨rfl, rfl⟩ : g = ad ∧ off = 0 := by simpa using hform
      subst ha
      have hlen : (mhalfI l k j).length = n := by rw [mhalfI_len _ _ _ (by omega)]; exact hl
      have ho2 : wr.ownsRow B 2 1 (.slice (some ⟨g, 0, none⟩) n cap) n (ic (mhalfI l k j)) := by have := hown'; unfold OwnI at this; rw [hlen] at this; exact this
      have hc : wr.cell? ⟨g, j, none⟩ = some (.int .i64 (nthI (mhalfI l k j) j)) := by have := hcell j (by omega); rw [Nat.zero_add] at this; exact this
      have hf := ho2.frozenAt j
      obtain ⟨hst, hgr2⟩ := ho2.stored j (.int .i64 ((k + j : Nat) : Int))
      rw [mhalfI_set l k j (by omega)] at hst
      have HO : Hid (OwnI (wr.setCell ⟨g, j, none⟩ (.int .i64 ((k + j : Nat) : Int))) B (.slice (some ⟨g, 0, none⟩) n cap) (mhalfI l k (j + 1))) := by
        show OwnI _ _ _ _
        unfold OwnI
        rw [mhalfI_len _ _ _ (by omega), hl]; exact hst
      have hgr3 : w.grownBy (wr.setCell ⟨g, j, none⟩ (.int .i64 ((k + j : Nat) : Int))) (some g) := ⟨hgr2.os.trans hgr.os, hgr2.tape.trans hgr.tape, hgr2.output.trans hgr.output, Nat.le_trans hgr.size hgr2.size, fun b hb hne => (hgr2.block b (Nat.lt_of_lt_of_le hb hgr.size) hne).trans (hgr.block b hb hne)⟩
      have e0 : ((k + j : Nat) : Int) = (k : Int) + (j : Int) := by omega
      rw [e0] at HO hgr3
      clear hst hgr2 ho2 hcell hown' hgr hform hr e0
      go_wp2
      go_roundw
      case rel => exact ⟨j + 1, by omega, by go_num, by go_num, HO.out, hgr3⟩
      case measure => simp [intOf]; omega
    · have hjj : j = n := by omega
      subst hjj
      rw [← hl, mhalfI_all, hl] at hown'
      go_wp2
      go_ret
      exact ⟨rfl, hown', hgr⟩


set_option maxHeartbeats 1600000 in
set_option maxRecDepth 100000 in
/-- THE MARKS OF AN OP. -/
theorem markOp_ow (o : OpR) (p : SlO) (k : Nat) (w : World) (hz : OwZ 2 w p.1 o.u) (hb : OwB w p.2 o.b) (hdj : ∀ g ∈ blkS p.1, g ∉ blkS p.2) (hk : k ≤ 4194304) (hu : o.u.length ≤ 1048576) (hbl : o.b.length ≤ 1048576) :
    Calls Tryz.prog 22 #[opX o p, .int .i64 (k : Int)] w fun e w' => e = .returned (.int .i64 ((k + o.u.length + o.b.length : Nat) : Int)) ∧ Kx (blkS p.1 ++ blkS p.2) w w' := by
  obtain ⟨⟨ua, un, uc⟩, ⟨ba, bn, bc'⟩⟩ := p
  dsimp only at hz hb hdj
  obtain rfl : un = o.u.length := by
    have : OwnI w 0 (.slice ua un uc) o.u := hz
    exact this.rd.1.symm
  obtain rfl : bn = o.b.length := hb.1.rd.1.symm
  obtain ⟨W, hW⟩ : ∃ W, w.alloc (.cells #[.int .i64 o.k, .string o.x, .string o.t, slW (ua, o.u.length, uc), .int .i64 o.m, .int .i64 o.f, .int .i64 o.d, slW (ba, o.b.length, bc')] 38) = W := ⟨_, rfl⟩
  have hb0 : Below w.heap.size w W := by rw [← hW]; exact (Below.refl _ _).alloc (Nat.le_refl _) _
  have hQ : Qo W w.heap.size ⟨.int .i64 o.k, .string o.x, .string o.t, slW (ua, o.u.length, uc), .int .i64 o.m, .int .i64 o.f, .int .i64 o.d, slW (ba, o.b.length, bc')⟩ := by rw [← hW]; exact Qo.new _ _ _ _ _ _ _ _ _ _
  have hne : some w.heap.size ≠ (Value.slice ua o.u.length uc).ownBlock := fun e => by
    have := hz.lt w.heap.size (mem_blkS.2 e.symm)
    omega
  have hzw := hz.below hb0 (Nat.le_refl _)
  have hbw := hb.below hb0 (Nat.le_refl _)
  have HC := markInt64S_l ua o.u.length uc k 0 o.u W hzw (by omega) (by omega)
  have HS : Hid (∀ w1 : World, W.grownBy w1 (Value.slice ua o.u.length uc).ownBlock → Kx (blkS ((ua, o.u.length, uc) : SlQ)) W w1 ∧ OwB w1 (ba, o.b.length, bc') o.b ∧ w1.cell? ⟨w.heap.size, 7, none⟩ = some (slW (ba, o.b.length, bc'))) := fun w1 hg => by
    have hk : Kx (blkS ((ua, o.u.length, uc) : SlQ)) W w1 := (Kx.refl _ _).grown hg fun g hg' => .inl (mem_blkS.2 hg')
    exact ⟨hk, hbw.keep fun g hg' => hk.block g (hbw.lt g hg') (fun hc => hdj g hc hg'), hg.cell hQ.2.2.2.2.2.2.2 hne⟩
  obtain ⟨q0, q1, q2, q3, q4, q5, q6, q7⟩ := hQ
  dsimp only at q0 q1 q2 q3 q4 q5 q6 q7
  clear hzw hbw hz hb
  go_enter Tryz.func22, Tryz.ntmps22
  go_wp2_with fail
  refine HC.mono ?_
  rintro e w1 ⟨rfl, -, hg1⟩
  obtain ⟨hk1, hB1, d7⟩ := HS.out w1 hg1
  have HC2 := markByteS_l ba o.b.length bc' (k + o.u.length) 0 o.b w1 hB1.1 (by omega) (by omega)
  clear HC HS q0 q1 q2 q3 q4 q5 q6 q7 hg1
  go_wp2_with fail
  refine HC2.mono ?_
  rintro e w2 ⟨rfl, -, hg2⟩
  have hk2 : Kx (blkS ((ba, o.b.length, bc') : SlQ)) w1 w2 := (Kx.refl _ _).grown hg2 fun g hg' => .inl (mem_blkS.2 hg')
  have hK : Kx (blkS ((ua, o.u.length, uc) : SlQ) ++ blkS ((ba, o.b.length, bc') : SlQ)) w w2 := ((Kx.of_below hb0).trans hk1 (fun g hg => .inl (List.mem_append_left _ hg))).trans hk2 (fun g hg => .inl (List.mem_append_right _ hg))
  clear HC2 hk1 hk2 hg2 d7
  go_wp2
  go_ret
  exact ⟨rfl, hK⟩

set_option maxHeartbeats 1600000 in
set_option maxRecDepth 100000 in
theorem eqStoreResult_ft (c v : Int) (su su' s s' : SlQ) (u : List Int) (l : List Bx) {lo lo' : Nat} (w : World) (hu : IsIl lo w su u) (hu' : IsIl lo' w su' u) (hs : IsXs lo w s l) (hs' : IsXs lo' w s' l) (hul : u.length ≤ 1048576) (hf : FtXs l) :
    Calls Tryz.prog 18 #[.agg #[.int .i64 c, slW su, .int .i64 v, slW s], .agg #[.int .i64 c, slW su', .int .i64 v, slW s']] w fun e w' => e = .returned (.bool true) ∧ Below w.heap.size w w' := by
  have hbW : Below w.heap.size w ((w.alloc (.cells #[.int .i64 c, slW su, .int .i64 v, slW s] 35)).alloc (.cells #[.int .i64 c, slW su', .int .i64 v, slW s'] 35)) :=
    ((Below.refl _ _).alloc (Nat.le_refl _) _).alloc (by simp) _
  have hA := (Qc.new w (.int .i64 c) (slW su) (.int .i64 v) (slW s) 35).below ((Below.refl _ _).alloc (Nat.le_refl _) (.cells #[.int .i64 c, slW su', .int .i64 v, slW s'] 35)) (by simp)
  have hC : Qc ((w.alloc (.cells #[.int .i64 c, slW su, .int .i64 v, slW s] 35)).alloc (.cells #[.int .i64 c, slW su', .int .i64 v, slW s'] 35)) (w.heap.size + 1) (.int .i64 c, slW su', .int .i64 v, slW s') := by
    have h := Qc.new (w.alloc (.cells #[.int .i64 c, slW su, .int .i64 v, slW s] 35)) (.int .i64 c) (slW su') (.int .i64 v) (slW s') 35
    simpa using h
  have HC := eqIl_same su su' u _ (hu.below hbW) (hu'.below hbW) hul
  have hs2 := hs.below hbW
  have hs2' := hs'.below hbW
  go_enter Tryz.func18, Tryz.ntmps18
  go_wp2_with fail
  generalize (w.alloc (.cells #[.int .i64 c, slW su, .int .i64 v, slW s] 35)).alloc (.cells #[.int .i64 c, slW su', .int .i64 v, slW s'] 35) = W at *
  refine HC.mono ?_
  rintro e w1 ⟨rfl, hb1⟩
  have hbw := hbW.trans (hb1.mono hbW.size)
  have hA1 := hA.below hb1 hA.lt
  have hC1 := hC.below hb1 hC.lt
  have HC2 := eqStore_ft v s s' l _ (hs2.below hb1) (hs2'.below hb1) hf
  obtain ⟨a0, a1, a2, a3⟩ := hA1
  obtain ⟨c0, c1, c2, c3⟩ := hC1
  dsimp only at a0 a1 a2 a3 c0 c1 c2 c3
  clear HC hb1 hbW hA hC W hs hs' hs2 hs2' hu hu'
  go_wp2_with fail
  refine HC2.mono ?_
  rintro e w2 ⟨rfl, hb2⟩
  have hbw2 := hbw.trans (hb2.mono hbw.size)
  clear HC2 hb2 hbw
  go_wp2
  go_ret
  exact ⟨rfl, hbw2⟩

/-- What is told of an answer. -/
def rz (r : Rs) : Rs := if r.1 = 0 then r else badR r.1
theorem rz_bd {r : Rs} (h : BdR r) : BdR (rz r) := by
  unfold rz
  split
  · exact h
  · exact .bad _
/-- An answer, in memory of its own. -/
def SrK (N : Nat) (r : Rs) (w' : World) (su s : SlQ) (xs : List Dx) : Prop := OwZ 2 w' su r.2.1 ∧ CX N w' s r.2.2.2 xs ∧ ∀ g ∈ blkS su, N ≤ g ∧ g ∉ blkS s ++ fpX xs
theorem SrEnd.get {r : Rs} {w w' : World} {e : Ending} (h : SrEnd r w e w') : ∃ su s xs, e = .returned (.agg #[.int .i64 (rz r).1, slW su, .int .i64 (rz r).2.2.1, slW s]) ∧ SrK w.heap.size (rz r) w' su s xs ∧ Below w.heap.size w w' := by
  rcases h with ⟨h0, he, hb⟩ | ⟨h0, su, s, xs, he, h1, h2, h3, hb⟩
  · have e1 : rz r = badR r.1 := if_neg h0
    rw [e1]
    exact ⟨(none, 0, 0), (none, 0, 0), [], he, ⟨World.ownsRow_nil _ _ _ _, CX.nil _ _, fun g hg => by simp [blkS] at hg⟩, hb⟩
  · have e1 : rz r = r := if_pos h0
    rw [e1]
    exact ⟨su, s, xs, by rw [h0]; exact he, ⟨h1, h2, h3⟩, hb⟩
theorem SrK.below {N C : Nat} {r : Rs} {w w' : World} {su s : SlQ} {xs : List Dx} (h : SrK N r w su s xs) (hb : Below C w w') (hC : w.heap.size ≤ C) : SrK N r w' su s xs := ⟨h.1.below hb hC, h.2.1.below hb hC, h.2.2⟩
theorem SrK.keepK {N : Nat} {r : Rs} {w w' : World} {su s : SlQ} {xs : List Dx} {fp : List Nat} (h : SrK N r w su s xs) (hk : Kx fp w w') (hn : ∀ g ∈ blkS su ++ (blkS s ++ fpX xs), g ∉ fp) : SrK N r w' su s xs :=
  ⟨h.1.keepK hk fun g hg => hn g (List.mem_append_left _ hg), ⟨h.2.1.1.keepK hk fun g hg => hn g (List.mem_append_right _ hg), h.2.1.2⟩, h.2.2⟩
theorem OwZ.ilz {w : World} {s : SlQ} {l : List Int} (h : OwZ 2 w s l) : IsIl 0 w s l := by
  obtain ⟨a, n, c⟩ := s
  have h' : OwnI w 0 (.slice a n c) l := h
  obtain ⟨a', c', e, h1, h2⟩ := h'.form
  simp only [Value.slice.injEq] at e
  obtain ⟨-, e2, e3⟩ := e
  exact ⟨h'.rd.1, by dsimp only; omega, by dsimp only; omega, h'.rd.2, fun _ _ => Nat.zero_le _⟩
theorem SrK.eq {N N' : Nat} {r : Rs} {w : World} {su s su' s' : SlQ} {xs xs' : List Dx} (h : SrK N r w su s xs) (h' : SrK N' r w su' s' xs') (hb : BdR r) :
    Calls Tryz.prog 18 #[.agg #[.int .i64 r.1, slW su, .int .i64 r.2.2.1, slW s], .agg #[.int .i64 r.1, slW su', .int .i64 r.2.2.1, slW s']] w fun e w' => e = .returned (.bool true) ∧ Below w.heap.size w w' := by
  have hx : IsXs 0 w s r.2.2.2 := by have := h.2.1.1.xs (lo := 0) (fun _ _ => Nat.zero_le _); rwa [h.2.1.2.1] at this
  have hx' : IsXs 0 w s' r.2.2.2 := by have := h'.2.1.1.xs (lo := 0) (fun _ _ => Nat.zero_le _); rwa [h'.2.1.2.1] at this
  refine eqStoreResult_ft r.1 r.2.2.1 su su' s s' r.2.1 r.2.2.2 w h.1.ilz h'.1.ilz hx hx' (Nat.le_trans hb.1 (by omega)) ⟨Nat.le_trans hb.2.1 (by omega), fun i hi => ?_⟩
  have hm := hb.2.2 _ (nthX_mem hi)
  exact ⟨hm.1, Nat.le_trans hm.2.1 (by omega), fun j hj => Nat.le_trans (hm.2.2 _ (by rw [nthM_get hj]; exact List.getElem_mem hj)) (by omega)⟩
end Go.Proofs.YtejbbnpgghpgaaaGreatDoor
