/- What an op on a store gives is small: few Uids, few mailboxes, few messages of few bytes; no program in it · The marks of an op that the law turned, whether two results of an op on a store are the same; no conditions beyond those that each fact names · Ways of a piece of code that meet; answers in memory of their own. -/
import Derived.Test.YtejbbnpgghpgaaaGreatDoorDdiToApk
import Derived.Test.YtejbbnpgghpgaaaGreatDoorLtcToLto
import Derived.Test.YtejbbnpgghpgaaaGreatDoorLhdToLst
import Derived.Test.YtejbbnpgghpgaaaGreatDoorLszToMda
import Derived.Test.YtejbbnpgghpgaaaGreatDoorMdmToLtb
namespace Go.Proofs.YtejbbnpgghpgaaaGreatDoor
open Go.RowKit
def BdB (n : Nat) (b : Bx) : Prop := b.n.size ≤ 1048576 ∧ b.m.length ≤ n ∧ ∀ m ∈ b.m, m.b.length ≤ 400
def BdL (n : Nat) (l : List Bx) : Prop := l.length ≤ 4 ∧ ∀ b ∈ l, BdB n b
def BdR (r : Rs) : Prop := r.2.1.length ≤ 12 ∧ BdL 12 r.2.2.2
theorem BdB.mono {n n' : Nat} {b : Bx} (h : BdB n b) (hn : n ≤ n') : BdB n' b := ⟨h.1, Nat.le_trans h.2.1 hn, h.2.2⟩
theorem BdL.mono {n n' : Nat} {l : List Bx} (h : BdL n l) (hn : n ≤ n') : BdL n' l := ⟨h.1, fun b hb => (h.2 b hb).mono hn⟩
theorem BdL.set {n : Nat} {l : List Bx} (h : BdL n l) (i : Nat) {b : Bx} (hb : BdB n b) : BdL n (l.set i b) := by
  refine ⟨by rw [List.length_set]; exact h.1, fun c hc => ?_⟩
  rcases List.mem_or_eq_of_mem_set hc with h' | h'
  · exact h.2 c h'
  · rw [h']; exact hb
theorem BdR.bad (c : Int) : BdR (badR c) := ⟨Nat.zero_le _, Nat.zero_le _, fun b hb => by simp [badR] at hb⟩
theorem BdB.put {n : Nat} {b : Bx} (h : BdB n b) (f d : Int) {c : List Nat} (hc : c.length ≤ 400) : BdB (n + 1) (putB b f d c) := by
  refine ⟨h.1, by simp [putB]; exact h.2.1, fun m hm => ?_⟩
  simp only [putB, List.mem_append, List.mem_singleton] at hm
  rcases hm with h' | h'
  · exact h.2.2 m h'
  · rw [h']; exact hc
theorem BdB.map {n : Nat} {b : Bx} (h : BdB n b) (f : Msg → Msg) (hf : ∀ m, (f m).b = m.b) : BdB n ⟨b.n, b.v, b.x, b.m.map f⟩ := by
  refine ⟨h.1, by simp; exact h.2.1, fun m hm => ?_⟩
  obtain ⟨x, hx, rfl⟩ := List.mem_map.1 hm
  rw [hf]; exact h.2.2 x hx
end Go.Proofs.YtejbbnpgghpgaaaGreatDoor
namespace Go.Proofs.YtejbbnpgghpgaaaGreatDoor
open Go.RowKit
set_option linter.unusedVariables false
set_option maxHeartbeats 1600000 in
set_option maxRecDepth 100000 in
theorem eqStoreResult_ft (c v : Int) (su su' s s' : SlQ) (u : List Int) (l : List Bx) {lo lo' : Nat} (w : World) (hu : IsIl lo w su u) (hu' : IsIl lo' w su' u) (hs : IsXs lo w s l) (hs' : IsXs lo' w s' l) (hul : u.length ≤ 1048576) (hf : FtXs l) :
    Calls Tryz.prog 18 #[.agg #[.int .i64 c, slW su, .int .i64 v, slW s], .agg #[.int .i64 c, slW su', .int .i64 v, slW s']] w fun e w' => e = .returned (.bool true) ∧ Below w.heap.size w w' := by
  have hbW : Below w.heap.size w ((w.alloc (.cells #[.int .i64 c, slW su, .int .i64 v, slW s] 35)).alloc (.cells #[.int .i64 c, slW su', .int .i64 v, slW s'] 35)) :=
    ((Below.refl _ _).alloc (Nat.le_refl _) _).alloc (by simp) _
  have hA := (Qc.new w (.int .i64 c) (slW su) (.int .i64 v) (slW s) 35).below ((Below.refl _ _).alloc (Nat.le_refl _) (.cells #[.int .i64 c, slW su', .int .i64 v, slW s'] 35)) (by simp)
  have hC : Qc ((w.alloc (.cells #[.int .i64 c, slW su, .int .i64 v, slW s] 35)).alloc (.cells #[.int .i64 c, slW su', .int .i64 v, slW s'] 35)) (w.heap.size + 1) (.int .i64 c, slW su', .int .i64 v, slW s') := by
    have h := Qc.new (w.alloc (.cells #[.int .i64 c, slW su, .int .i64 v, slW s] 35)) (.int .i64 c) (slW su') (.int .i64 v) (slW s') 35
    simpa using h
  have HC := eqIl_same su su' u _ (hu.below hbW) (hu'.below hbW) hul
  have hs2 := hs.below hbW
  have hs2' := hs'.below hbW
  go_enter Tryz.func18, Tryz.ntmps18
  go_wp2_with fail
  generalize (w.alloc (.cells #[.int .i64 c, slW su, .int .i64 v, slW s] 35)).alloc (.cells #[.int .i64 c, slW su', .int .i64 v, slW s'] 35) = W at *
  refine HC.mono ?_
  rintro e w1 ⟨rfl, hb1⟩
  have hbw := hbW.trans (hb1.mono hbW.size)
  have hA1 := hA.below hb1 hA.lt
  have hC1 := hC.below hb1 hC.lt
  have HC2 := eqStore_ft v s s' l _ (hs2.below hb1) (hs2'.below hb1) hf
  obtain ⟨a0, a1, a2, a3⟩ := hA1
  obtain ⟨c0, c1, c2, c3⟩ := hC1
  dsimp only at a0 a1 a2 a3 c0 c1 c2 c3
  clear HC hb1 hbW hA hC W hs hs' hs2 hs2' hu hu'
  go_wp2_with fail
  refine HC2.mono ?_
  rintro e w2 ⟨rfl, hb2⟩
  have hbw2 := hbw.trans (hb2.mono hbw.size)
  clear HC2 hb2 hbw
  go_wp2
  go_ret
  exact ⟨rfl, hbw2⟩
def rz (r : Rs) : Rs := if r.1 = 0 then r else badR r.1
theorem rz_bd {r : Rs} (h : BdR r) : BdR (rz r) := by
  unfold rz
  split
  · exact h
  · exact .bad _
def SrK (N : Nat) (r : Rs) (w' : World) (su s : SlQ) (xs : List Dx) : Prop := OwZ 2 w' su r.2.1 ∧ CX N w' s r.2.2.2 xs ∧ ∀ g ∈ blkS su, N ≤ g ∧ g ∉ blkS s ++ fpX xs
theorem SrEnd.get {r : Rs} {w w' : World} {e : Ending} (h : SrEnd r w e w') : ∃ su s xs, e = .returned (.agg #[.int .i64 (rz r).1, slW su, .int .i64 (rz r).2.2.1, slW s]) ∧ SrK w.heap.size (rz r) w' su s xs ∧ Below w.heap.size w w' := by
  rcases h with ⟨h0, he, hb⟩ | ⟨h0, su, s, xs, he, h1, h2, h3, hb⟩
  · have e1 : rz r = badR r.1 := if_neg h0
    rw [e1]
    exact ⟨(none, 0, 0), (none, 0, 0), [], he, ⟨World.ownsRow_nil _ _ _ _, CX.nil _ _, fun g hg => by simp [blkS] at hg⟩, hb⟩
  · have e1 : rz r = r := if_pos h0
    rw [e1]
    exact ⟨su, s, xs, by rw [h0]; exact he, ⟨h1, h2, h3⟩, hb⟩
theorem SrK.below {N C : Nat} {r : Rs} {w w' : World} {su s : SlQ} {xs : List Dx} (h : SrK N r w su s xs) (hb : Below C w w') (hC : w.heap.size ≤ C) : SrK N r w' su s xs := ⟨h.1.below hb hC, h.2.1.below hb hC, h.2.2⟩
theorem SrK.keepK {N : Nat} {r : Rs} {w w' : World} {su s : SlQ} {xs : List Dx} {fp : List Nat} (h : SrK N r w su s xs) (hk : Kx fp w w') (hn : ∀ g ∈ blkS su ++ (blkS s ++ fpX xs), g ∉ fp) : SrK N r w' su s xs :=
  ⟨h.1.keepK hk fun g hg => hn g (List.mem_append_left _ hg), ⟨h.2.1.1.keepK hk fun g hg => hn g (List.mem_append_right _ hg), h.2.1.2⟩, h.2.2⟩
theorem OwZ.ilz {w : World} {s : SlQ} {l : List Int} (h : OwZ 2 w s l) : IsIl 0 w s l := by
  obtain ⟨a, n, c⟩ := s
  have h' : OwnI w 0 (.slice a n c) l := h
  obtain ⟨a', c', e, h1, h2⟩ := h'.form
  simp only [Value.slice.injEq] at e
  obtain ⟨-, e2, e3⟩ := e
  exact ⟨h'.rd.1, by dsimp only; omega, by dsimp only; omega, h'.rd.2, fun _ _ => Nat.zero_le _⟩
theorem SrK.eq {N N' : Nat} {r : Rs} {w : World} {su s su' s' : SlQ} {xs xs' : List Dx} (h : SrK N r w su s xs) (h' : SrK N' r w su' s' xs') (hb : BdR r) :
    Calls Tryz.prog 18 #[.agg #[.int .i64 r.1, slW su, .int .i64 r.2.2.1, slW s], .agg #[.int .i64 r.1, slW su', .int .i64 r.2.2.1, slW s']] w fun e w' => e = .returned (.bool true) ∧ Below w.heap.size w w' := by
  have hx : IsXs 0 w s r.2.2.2 := by have := h.2.1.1.xs (lo := 0) (fun _ _ => Nat.zero_le _); rwa [h.2.1.2.1] at this
  have hx' : IsXs 0 w s' r.2.2.2 := by have := h'.2.1.1.xs (lo := 0) (fun _ _ => Nat.zero_le _); rwa [h'.2.1.2.1] at this
  refine eqStoreResult_ft r.1 r.2.2.1 su su' s s' r.2.1 r.2.2.2 w h.1.ilz h'.1.ilz hx hx' (Nat.le_trans hb.1 (by omega)) ⟨Nat.le_trans hb.2.1 (by omega), fun i hi => ?_⟩
  have hm := hb.2.2 _ (nthX_mem hi)
  exact ⟨hm.1, Nat.le_trans hm.2.1 (by omega), fun j hj => Nat.le_trans (hm.2.2 _ (by rw [nthM_get hj]; exact List.getElem_mem hj)) (by omega)⟩
end Go.Proofs.YtejbbnpgghpgaaaGreatDoor
namespace Go.Proofs.YtejbbnpgghpgaaaGreatDoor
open Go.RowKit
set_option linter.unusedVariables false
theorem sum_le_of {α : Type} (f : α → Nat) (b : Nat) : ∀ l : List α, (∀ x ∈ l, f x ≤ b) → (l.map f).sum ≤ l.length * b
  | [], _ => by simp
  | x :: l, h => by
    have h1 := h x (by simp)
    have h2 := sum_le_of f b l (fun y hy => h y (by simp [hy]))
    rw [List.map_cons, List.sum_cons, List.length_cons, Nat.succ_mul]
    omega
theorem few_bd {xs : List Dx} {l : List Bx} (he : xs.map Dx.bx = l) (h : BdL 12 l) : FewX xs ∧ mkKx xs ≤ 20000 := by
  subst he
  have hd : ∀ d ∈ xs, d.ms.length ≤ 12 ∧ ∀ e ∈ d.ms, e.m.b.length ≤ 400 := fun d hd => by
    have := h.2 d.bx (List.mem_map.2 ⟨d, hd, rfl⟩)
    have h1 : (d.ms.map Dm.m).length ≤ 12 := this.2.1
    rw [List.length_map] at h1
    exact ⟨h1, fun e he => this.2.2 e.m (List.mem_map.2 ⟨e, he, rfl⟩)⟩
  have hl : xs.length ≤ 4 := by have := h.1; rwa [List.length_map] at this
  refine ⟨⟨fun d hd' => ⟨fun e he => Nat.le_trans ((hd d hd').2 e he) (by omega), Nat.le_trans (hd d hd').1 (by omega)⟩, by omega⟩, ?_⟩
  unfold mkKx
  have h1 : ∀ d ∈ xs, mkNx d ≤ 4839 := fun d hd' => by
    unfold mkNx mkK
    have h2 := sum_le_of mkN 403 d.ms (fun e he => by unfold mkN; have := (hd d hd').2 e he; omega)
    have h3 := (hd d hd').1
    have h4 : d.ms.length * 403 ≤ 12 * 403 := Nat.mul_le_mul_right _ h3
    omega
  have h5 := sum_le_of mkNx 4839 xs h1
  have h6 : xs.length * 4839 ≤ 4 * 4839 := Nat.mul_le_mul_right _ hl
  omega
theorem mkKx_wt : ∀ (xs : List Dx), mkKx xs ≤ 3 * wtXs (xs.map Dx.bx)
  | [] => by simp [mkKx, wtXs]
  | d :: xs => by
    have ih := mkKx_wt xs
    have hk : mkK d.ms ≤ 3 * wtMs (d.ms.map Dm.m) := by
      have : ∀ ms : List Dm, mkK ms ≤ 3 * wtMs (ms.map Dm.m) := fun ms => by
        induction ms with
        | nil => simp [mkK, wtMs]
        | cons e ms ih =>
          unfold mkK wtMs at *
          simp only [List.map_cons, List.sum_cons, List.length_cons, List.length_map, mkN] at *
          omega
      exact this _
    unfold mkKx wtXs at *
    simp only [List.map_cons, List.sum_cons, List.length_cons, List.length_map, mkNx] at *
    have e : wtMs (Dx.bx d).m = wtMs (d.ms.map Dm.m) := rfl
    rw [e]
    omega
theorem few_ft {xs : List Dx} {l : List Bx} (he : xs.map Dx.bx = l) (h : FtXs l) : FewX xs ∧ FtH xs := by
  subst he
  have hd : ∀ d ∈ xs, FtX d.bx := fun d hd => by
    obtain ⟨i, hi, e⟩ := List.getElem_of_mem (List.mem_map.2 ⟨d, hd, rfl⟩ : d.bx ∈ xs.map Dx.bx)
    have := h.2 i hi
    rw [nthX_get hi, e] at this
    exact this
  have hb : ∀ d ∈ xs, d.ms.length ≤ 1048576 ∧ ∀ e ∈ d.ms, e.m.b.length ≤ 1048576 := fun d hd' => by
    have h2 := (hd d hd').2
    have h1 : (d.ms.map Dm.m).length ≤ 1048576 := h2.1
    rw [List.length_map] at h1
    refine ⟨h1, fun e he => ?_⟩
    obtain ⟨i, hi, ee⟩ := List.getElem_of_mem (List.mem_map.2 ⟨e, he, rfl⟩ : e.m ∈ d.ms.map Dm.m)
    have h3 : FtM (nthM (d.ms.map Dm.m) i) := h2.2 i hi
    rw [nthM_get hi, ee] at h3
    exact h3
  have hl : xs.length ≤ 1048576 := by have := h.1; rwa [List.length_map] at this
  exact ⟨⟨fun d hd' => ⟨(hb d hd').2, (hb d hd').1⟩, hl⟩, hl, fun d hd' => ⟨(hb d hd').1, (hb d hd').2⟩⟩
def PBx (b : Nat) (v : Int) (q0 : SlQ) (o : OpR) (p0 : SlO) (w : World) : Prop := w.cell? ⟨b, 0, none⟩ = some (.int .i64 v) ∧ w.cell? ⟨b, 1, none⟩ = some (slW q0) ∧ Qo w (b + 1) ⟨.int .i64 o.k, .string o.x, .string o.t, slW p0.1, .int .i64 o.m, .int .i64 o.f, .int .i64 o.d, slW p0.2⟩
theorem PBx.below {b C : Nat} {v : Int} {q0 : SlQ} {o : OpR} {p0 : SlO} {w w' : World} (h : PBx b v q0 o p0 w) (hb : Below C w w') (hC : b + 2 ≤ C) : PBx b v q0 o p0 w' :=
  ⟨(hb.cell (p := ⟨b, 0, none⟩) (show b < C by omega)).trans h.1, (hb.cell (p := ⟨b, 1, none⟩) (show b < C by omega)).trans h.2.1, h.2.2.below hb (by omega)⟩
def putL (a : Act) : List Nat → List Value → Act
  | s :: ss, v :: vs => putL (a.put (some s) v) ss vs
  | _, _ => a
theorem wp_meetL {P : Program} {c : Code} {Q : Exit → Act → World → Prop} {a : Act} {w : World} (ss : List Nat) (R : List Value → World → Prop)
    (h1 : c.wp P (fun ex a' w' => ex = .normal ∧ R (ss.map fun s => a'.tmps.getD s undef) w' ∧ a' = putL a ss (ss.map fun s => a'.tmps.getD s undef)) a w)
    (h2 : ∀ (vs : List Value) (w' : World), vs.length = ss.length → R vs w' → Q .normal (putL a ss vs) w') : c.wp P Q a w :=
  Code.wp_mono (fun e a' w' ⟨he, hR, ha⟩ => by subst he; have h := h2 _ w' (by simp) hR; rw [← ha] at h; exact h) h1
def Fz4 (w : World) (g : Nat) : Prop := w.frozen? ⟨g, 0, none⟩ = false ∧ w.frozen? ⟨g, 1, none⟩ = false ∧ w.frozen? ⟨g, 2, none⟩ = false ∧ w.frozen? ⟨g, 3, none⟩ = false
theorem Fz4.below {C : Nat} {w w' : World} {g : Nat} (h : Fz4 w g) (hb : Below C w w') (hg : g < C) : Fz4 w' g :=
  ⟨(hb.frozen (p := ⟨g, 0, none⟩) hg).trans h.1, (hb.frozen (p := ⟨g, 1, none⟩) hg).trans h.2.1, (hb.frozen (p := ⟨g, 2, none⟩) hg).trans h.2.2.1, (hb.frozen (p := ⟨g, 3, none⟩) hg).trans h.2.2.2⟩
theorem Fz4.new (w : World) (c0 c1 c2 c3 : Value) (t : TypeId) : Fz4 (w.alloc (.cells #[c0, c1, c2, c3] t)) w.heap.size := ⟨by simp, by simp, by simp, by simp⟩
theorem qc_four {w : World} {g : Nat} {q : Qd} (h : Qc w g q) (a b c d : Value) : Qc ((((w.setCell ⟨g, 0, none⟩ a).setCell ⟨g, 1, none⟩ b).setCell ⟨g, 2, none⟩ c).setCell ⟨g, 3, none⟩ d) g (a, b, c, d) := by
  obtain ⟨h0, h1, h2, h3⟩ := h
  refine ⟨?_, ?_, ?_, ?_⟩
  · rw [World.cell?_setCell_other _ _ _ _ (by simp), World.cell?_setCell_other _ _ _ _ (by simp), World.cell?_setCell_other _ _ _ _ (by simp)]
    exact World.cell?_setCell_same _ _ _ h0
  · rw [World.cell?_setCell_other _ _ _ _ (by simp), World.cell?_setCell_other _ _ _ _ (by simp)]
    exact World.cell?_setCell_same _ _ _ ((World.cell?_setCell_other _ _ _ _ (by simp)).trans h1)
  · rw [World.cell?_setCell_other _ _ _ _ (by simp)]
    exact World.cell?_setCell_same _ _ _ ((World.cell?_setCell_other _ _ _ _ (by simp)).trans ((World.cell?_setCell_other _ _ _ _ (by simp)).trans h2))
  · exact World.cell?_setCell_same _ _ _ ((World.cell?_setCell_other _ _ _ _ (by simp)).trans ((World.cell?_setCell_other _ _ _ _ (by simp)).trans ((World.cell?_setCell_other _ _ _ _ (by simp)).trans h3)))
theorem Qc.kx {w w' : World} {g : Nat} {q : Qd} {fp : List Nat} (h : Qc w g q) (hk : Kx fp w w') (hn : g ∉ fp) : Qc w' g q := by
  have e := hk.block g h.lt hn
  exact ⟨(World.cell?_of_block e).trans h.1, (World.cell?_of_block e).trans h.2.1, (World.cell?_of_block e).trans h.2.2.1, (World.cell?_of_block e).trans h.2.2.2⟩
theorem Dc.kx {w w' : World} {g : Nat} {q : Value × Value} {fp : List Nat} (h : Dc w g q) (hk : Kx fp w w') (hn : g ∉ fp) : Dc w' g q := by
  have e := hk.block g h.lt hn
  exact ⟨(World.cell?_of_block e).trans h.1, (World.cell?_of_block e).trans h.2⟩
theorem Qo.kx {w w' : World} {g : Nat} {q : Oc} {fp : List Nat} (h : Qo w g q) (hk : Kx fp w w') (hn : g ∉ fp) : Qo w' g q := by
  have e := hk.block g h.lt hn
  obtain ⟨h0, h1, h2, h3, h4, h5, h6, h7⟩ := h
  exact ⟨(World.cell?_of_block e).trans h0, (World.cell?_of_block e).trans h1, (World.cell?_of_block e).trans h2, (World.cell?_of_block e).trans h3, (World.cell?_of_block e).trans h4, (World.cell?_of_block e).trans h5, (World.cell?_of_block e).trans h6, (World.cell?_of_block e).trans h7⟩
theorem SrK.low {N N' : Nat} {r : Rs} {w : World} {su s : SlQ} {xs : List Dx} (h : SrK N r w su s xs) (hN : N' ≤ N) : SrK N' r w su s xs := ⟨h.1, h.2.1.low hN, fun g hg => ⟨Nat.le_trans hN (h.2.2 g hg).1, (h.2.2 g hg).2⟩⟩
theorem SrK.fp {N : Nat} {r : Rs} {w : World} {su s : SlQ} {xs : List Dx} (h : SrK N r w su s xs) : ∀ g ∈ blkS su ++ (blkS s ++ fpX xs), N ≤ g ∧ g < w.heap.size := fun g hg => by
  rcases List.mem_append.1 hg with h' | h'
  · exact ⟨(h.2.2 g h').1, h.1.lt g h'⟩
  · exact ⟨h.2.1.2.2.2 g h', h.2.1.1.lt g h'⟩
theorem CX.isx {N : Nat} {w : World} {s : SlQ} {l : List Bx} {xs : List Dx} (h : CX N w s l xs) : IsXs 0 w s l := by
  have := h.1.xs (lo := 0) (fun _ _ => Nat.zero_le _)
  rwa [h.2.1] at this
end Go.Proofs.YtejbbnpgghpgaaaGreatDoor
