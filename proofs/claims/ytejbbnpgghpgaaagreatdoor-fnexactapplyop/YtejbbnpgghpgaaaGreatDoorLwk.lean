/- The walk of the law of ApplyOp: it returns true at every store and op; no conditions beyond those that each fact names. -/
import Derived.Test.YtejbbnpgghpgaaaGreatDoorLbdToLeq
namespace Go.Proofs.YtejbbnpgghpgaaaGreatDoor
open Go.RowKit
set_option linter.unusedVariables false

theorem sum_le_of {α : Type} (f : α → Nat) (b : Nat) : ∀ l : List α, (∀ x ∈ l, f x ≤ b) → (l.map f).sum ≤ l.length * b
  | [], _ => by simp
  | x :: l, h => by
    have h1 := h x (by simp)
    have h2 := sum_le_of f b l (fun y hy => h y (by simp [hy]))
    rw [List.map_cons, List.sum_cons, List.length_cons, Nat.succ_mul]
    omega
/-- The marks of a small store. -/
theorem few_bd {xs : List Dx} {l : List Bx} (he : xs.map Dx.bx = l) (h : BdL 12 l) : FewX xs ∧ mkKx xs ≤ 20000 := by
  subst he
  have hd : ∀ d ∈ xs, d.ms.length ≤ 12 ∧ ∀ e ∈ d.ms, e.m.b.length ≤ 400 := fun d hd => by
    have := h.2 d.bx (List.mem_map.2 ⟨d, hd, rfl⟩)
    have h1 : (d.ms.map Dm.m).length ≤ 12 := this.2.1
    rw [List.length_map] at h1
    exact ⟨h1, fun e he => this.2.2 e.m (List.mem_map.2 ⟨e, he, rfl⟩)⟩
  have hl : xs.length ≤ 4 := by have := h.1; rwa [List.length_map] at this
  refine ⟨⟨fun d hd' => ⟨fun e he => Nat.le_trans ((hd d hd').2 e he) (by omega), Nat.le_trans (hd d hd').1 (by omega)⟩, by omega⟩, ?_⟩
  unfold mkKx
  have h1 : ∀ d ∈ xs, mkNx d ≤ 4839 := fun d hd' => by
    unfold mkNx mkK
    have h2 := sum_le_of mkN 403 d.ms (fun e he => by unfold mkN; have := (hd d hd').2 e he; omega)
    have h3 := (hd d hd').1
    have h4 : d.ms.length * 403 ≤ 12 * 403 := Nat.mul_le_mul_right _ h3
    omega
  have h5 := sum_le_of mkNx 4839 xs h1
  have h6 : xs.length * 4839 ≤ 4 * 4839 := Nat.mul_le_mul_right _ hl
  omega
/-- The marks of a store that the laws let through. -/
theorem mkKx_wt : ∀ (xs : List Dx), mkKx xs ≤ 3 * wtXs (xs.map Dx.bx)
  | [] => by simp [mkKx, wtXs]
  | d :: xs => by
    have ih := mkKx_wt xs
    have hk : mkK d.ms ≤ 3 * wtMs (d.ms.map Dm.m) := by
      have : ∀ ms : List Dm, mkK ms ≤ 3 * wtMs (ms.map Dm.m) := fun ms => by
        induction ms with
        | nil => simp [mkK, wtMs]
        | cons e ms ih =>
          unfold mkK wtMs at *
          simp only [List.map_cons, List.sum_cons, List.length_cons, List.length_map, mkN] at *
          omega
      exact this _
    unfold mkKx wtXs at *
    simp only [List.map_cons, List.sum_cons, List.length_cons, List.length_map, mkNx] at *
    have e : wtMs (Dx.bx d).m = wtMs (d.ms.map Dm.m) := rfl
    rw [e]
    omega
theorem few_ft {xs : List Dx} {l : List Bx} (he : xs.map Dx.bx = l) (h : FtXs l) : FewX xs ∧ FtH xs := by
  subst he
  have hd : ∀ d ∈ xs, FtX d.bx := fun d hd => by
    obtain ⟨i, hi, e⟩ := List.getElem_of_mem (List.mem_map.2 ⟨d, hd, rfl⟩ : d.bx ∈ xs.map Dx.bx)
    have := h.2 i hi
    rw [nthX_get hi, e] at this
    exact this
  have hb : ∀ d ∈ xs, d.ms.length ≤ 1048576 ∧ ∀ e ∈ d.ms, e.m.b.length ≤ 1048576 := fun d hd' => by
    have h2 := (hd d hd').2
    have h1 : (d.ms.map Dm.m).length ≤ 1048576 := h2.1
    rw [List.length_map] at h1
    refine ⟨h1, fun e he => ?_⟩
    obtain ⟨i, hi, ee⟩ := List.getElem_of_mem (List.mem_map.2 ⟨e, he, rfl⟩ : e.m ∈ d.ms.map Dm.m)
    have h3 : FtM (nthM (d.ms.map Dm.m) i) := h2.2 i hi
    rw [nthM_get hi, ee] at h3
    exact h3
  have hl : xs.length ≤ 1048576 := by have := h.1; rwa [List.length_map] at this
  exact ⟨⟨fun d hd' => ⟨(hb d hd').2, (hb d hd').1⟩, hl⟩, hl, fun d hd' => ⟨(hb d hd').1, (hb d hd').2⟩⟩

/-- The two arguments in their blocks. -/
def PBx (b : Nat) (v : Int) (q0 : SlQ) (o : OpR) (p0 : SlO) (w : World) : Prop := w.cell? ⟨b, 0, none⟩ = some (.int .i64 v) ∧ w.cell? ⟨b, 1, none⟩ = some (slW q0) ∧ Qo w (b + 1) ⟨.int .i64 o.k, .string o.x, .string o.t, slW p0.1, .int .i64 o.m, .int .i64 o.f, .int .i64 o.d, slW p0.2⟩
theorem PBx.below {b C : Nat} {v : Int} {q0 : SlQ} {o : OpR} {p0 : SlO} {w w' : World} (h : PBx b v q0 o p0 w) (hb : Below C w w') (hC : b + 2 ≤ C) : PBx b v q0 o p0 w' :=
  ⟨(hb.cell (p := ⟨b, 0, none⟩) (show b < C by omega)).trans h.1, (hb.cell (p := ⟨b, 1, none⟩) (show b < C by omega)).trans h.2.1, h.2.2.below hb (by omega)⟩
/-- Values put into slots one behind the other. -/
def putL (a : Act) : List Nat → List Value → Act
  | s :: ss, v :: vs => putL (a.put (some s) v) ss vs
  | _, _ => a
/-- The ways of a piece of code meet, whatever it put into its slots. -/
theorem wp_meetL {P : Program} {c : Code} {Q : Exit → Act → World → Prop} {a : Act} {w : World} (ss : List Nat) (R : List Value → World → Prop)
    (h1 : c.wp P (fun ex a' w' => ex = .normal ∧ R (ss.map fun s => a'.tmps.getD s undef) w' ∧ a' = putL a ss (ss.map fun s => a'.tmps.getD s undef)) a w)
    (h2 : ∀ (vs : List Value) (w' : World), vs.length = ss.length → R vs w' → Q .normal (putL a ss vs) w') : c.wp P Q a w :=
  Code.wp_mono (fun e a' w' ⟨he, hR, ha⟩ => by subst he; have h := h2 _ w' (by simp) hR; rw [← ha] at h; exact h) h1
/-- Four cells that may be written. -/
def Fz4 (w : World) (g : Nat) : Prop := w.frozen? ⟨g, 0, none⟩ = false ∧ w.frozen? ⟨g, 1, none⟩ = false ∧ w.frozen? ⟨g, 2, none⟩ = false ∧ w.frozen? ⟨g, 3, none⟩ = false
theorem Fz4.below {C : Nat} {w w' : World} {g : Nat} (h : Fz4 w g) (hb : Below C w w') (hg : g < C) : Fz4 w' g :=
  ⟨(hb.frozen (p := ⟨g, 0, none⟩) hg).trans h.1, (hb.frozen (p := ⟨g, 1, none⟩) hg).trans h.2.1, (hb.frozen (p := ⟨g, 2, none⟩) hg).trans h.2.2.1, (hb.frozen (p := ⟨g, 3, none⟩) hg).trans h.2.2.2⟩
theorem Fz4.new (w : World) (c0 c1 c2 c3 : Value) (t : TypeId) : Fz4 (w.alloc (.cells #[c0, c1, c2, c3] t)) w.heap.size := ⟨by simp, by simp, by simp, by simp⟩
theorem qc_four {w : World} {g : Nat} {q : Qd} (h : Qc w g q) (a b c d : Value) : Qc ((((w.setCell ⟨g, 0, none⟩ a).setCell ⟨g, 1, none⟩ b).setCell ⟨g, 2, none⟩ c).setCell ⟨g, 3, none⟩ d) g (a, b, c, d) := by
  obtain ⟨h0, h1, h2, h3⟩ := h
  refine ⟨?_, ?_, ?_, ?_⟩
  · rw [World.cell?_setCell_other _ _ _ _ (by simp), World.cell?_setCell_other _ _ _ _ (by simp), World.cell?_setCell_other _ _ _ _ (by simp)]
    exact World.cell?_setCell_same _ _ _ h0
  · rw [World.cell?_setCell_other _ _ _ _ (by simp), World.cell?_setCell_other _ _ _ _ (by simp)]
    exact World.cell?_setCell_same _ _ _ ((World.cell?_setCell_other _ _ _ _ (by simp)).trans h1)
  · rw [World.cell?_setCell_other _ _ _ _ (by simp)]
    exact World.cell?_setCell_same _ _ _ ((World.cell?_setCell_other _ _ _ _ (by simp)).trans ((World.cell?_setCell_other _ _ _ _ (by simp)).trans h2))
  · exact World.cell?_setCell_same _ _ _ ((World.cell?_setCell_other _ _ _ _ (by simp)).trans ((World.cell?_setCell_other _ _ _ _ (by simp)).trans ((World.cell?_setCell_other _ _ _ _ (by simp)).trans h3)))
theorem Qc.kx {w w' : World} {g : Nat} {q : Qd} {fp : List Nat} (h : Qc w g q) (hk : Kx fp w w') (hn : g ∉ fp) : Qc w' g q := by
  have e := hk.block g h.lt hn
  exact ⟨(World.cell?_of_block e).trans h.1, (World.cell?_of_block e).trans h.2.1, (World.cell?_of_block e).trans h.2.2.1, (World.cell?_of_block e).trans h.2.2.2⟩
theorem Dc.kx {w w' : World} {g : Nat} {q : Value × Value} {fp : List Nat} (h : Dc w g q) (hk : Kx fp w w') (hn : g ∉ fp) : Dc w' g q := by
  have e := hk.block g h.lt hn
  exact ⟨(World.cell?_of_block e).trans h.1, (World.cell?_of_block e).trans h.2⟩
theorem Qo.kx {w w' : World} {g : Nat} {q : Oc} {fp : List Nat} (h : Qo w g q) (hk : Kx fp w w') (hn : g ∉ fp) : Qo w' g q := by
  have e := hk.block g h.lt hn
  obtain ⟨h0, h1, h2, h3, h4, h5, h6, h7⟩ := h
  exact ⟨(World.cell?_of_block e).trans h0, (World.cell?_of_block e).trans h1, (World.cell?_of_block e).trans h2, (World.cell?_of_block e).trans h3, (World.cell?_of_block e).trans h4, (World.cell?_of_block e).trans h5, (World.cell?_of_block e).trans h6, (World.cell?_of_block e).trans h7⟩
theorem SrK.low {N N' : Nat} {r : Rs} {w : World} {su s : SlQ} {xs : List Dx} (h : SrK N r w su s xs) (hN : N' ≤ N) : SrK N' r w su s xs := ⟨h.1, h.2.1.low hN, fun g hg => ⟨Nat.le_trans hN (h.2.2 g hg).1, (h.2.2 g hg).2⟩⟩
theorem SrK.fp {N : Nat} {r : Rs} {w : World} {su s : SlQ} {xs : List Dx} (h : SrK N r w su s xs) : ∀ g ∈ blkS su ++ (blkS s ++ fpX xs), N ≤ g ∧ g < w.heap.size := fun g hg => by
  rcases List.mem_append.1 hg with h' | h'
  · exact ⟨(h.2.2 g h').1, h.1.lt g h'⟩
  · exact ⟨h.2.1.2.2.2 g h', h.2.1.1.lt g h'⟩
theorem CX.isx {N : Nat} {w : World} {s : SlQ} {l : List Bx} {xs : List Dx} (h : CX N w s l xs) : IsXs 0 w s l := by
  have := h.1.xs (lo := 0) (fun _ _ => Nat.zero_le _)
  rwa [h.2.1] at this

set_option maxHeartbeats 12800000 in
set_option maxRecDepth 100000 in
theorem walkApplyOp (v : Int) (q0 : SlQ) (l0 : List Bx) (o : OpR) (p0 : SlO) (w : World) (hsW : IsXs 0 w q0 l0) (hok : ∀ i, i < l0.length → (nthX l0 i).n.size ≤ maxLen) (hOW : IsOp 0 w p0 o) (hoo : OkO o) (hTW : TabH8 w) :
    Calls Tryz.prog 3 #[.agg #[.int .i64 v, slW q0], opX o p0] w fun e w' => e = .returned (.bool true) ∧ Below w.heap.size w w' := by
  have HSP : Hid (∀ (s : SlQ) (xs : List Dx) (p : SlO) (lo : Nat) (w' : World), HX w' s xs → xs.map Dx.bx = l0 → FtXs l0 → FtO o → IsOp lo w' p o → OwZ 2 w' p.1 o.u → OwB w' p.2 o.b → Calls Tryz.prog 14 #[.agg #[.int .i64 v, slW s], opX o p] w' fun e w'' => SrEnd (aoR v l0 o) w' e w'') := fun s xs p lo w' hx he hf hfo hop hz hb => by
    have := specApplyOp_any v s xs o p w' hx (few_ft he hf).2 (by rw [he]; exact hf) hop hb hfo.1 hfo.2.1 (fun x hx' => hz.lt x.block (by unfold blkS; rw [hx']; simp))
    rwa [he] at this
  have HIM : Hid (∀ (s : SlQ) (xs : List Dx) (p : SlO) (lo : Nat) (w' : World), HX w' s xs → xs.map Dx.bx = l0 → FtXs l0 → FtO o → IsOp lo w' p o → OwZ 2 w' p.1 o.u → TabH8 w' → Calls Tryz.prog 17 #[.agg #[.int .i64 v, slW s], opX o p] w' fun e w'' => SrEnd (aoR v l0 o) w' e w'') := fun s xs p lo w' hx he hf hfo hop hz ht => by
    have hxs := hx.xs (lo := 0) (fun _ _ => Nat.zero_le _)
    rw [he] at hxs
    exact applyOp_any v s l0 o p w' hxs hf (hop.low (Nat.zero_le _)) ht hfo.1 hfo.2.1 (fun x hx' => hz.lt x.block (by unfold blkS; rw [hx']; simp))
  have HBD : Hid (∀ hf : FtXs l0, FtO o → BdR (rz (aoR v l0 o))) := fun hf hfo => rz_bd (aoR_bd hf hfo.1)
  have HEND : Hid (∀ (w' : World) (e : Ending) (w'' : World), SrEnd (aoR v l0 o) w' e w'' → ∃ su s xs, e = .returned (.agg #[.int .i64 (rz (aoR v l0 o)).1, slW su, .int .i64 (rz (aoR v l0 o)).2.2.1, slW s]) ∧ SrK w'.heap.size (rz (aoR v l0 o)) w'' su s xs ∧ Below w'.heap.size w' w'') := fun w' e w'' h => h.get
  obtain ⟨SE, hSE⟩ : ∃ SE : World → Ending → World → Prop, SE = SrEnd (aoR v l0 o) := ⟨_, rfl⟩
  rw [← hSE] at HSP HIM HEND
  generalize rz (aoR v l0 o) = rr at *
  clear hSE
  obtain ⟨w0, hw0⟩ : ∃ W, (w.alloc (.cells #[.int .i64 v, slW q0] 24)).alloc (.cells #[.int .i64 o.k, .string o.x, .string o.t, slW p0.1, .int .i64 o.m, .int .i64 o.f, .int .i64 o.d, slW p0.2] 28) = W := ⟨_, rfl⟩
  have hB0 : Below w.heap.size w w0 := by rw [← hw0]; exact ((Below.refl _ _).alloc (Nat.le_refl _) _).alloc (by simp) _
  have hz0 : w.heap.size + 2 ≤ w0.heap.size := by rw [← hw0]; simp
  have hP0 : PBx w.heap.size v q0 o p0 w0 := by
    rw [← hw0]
    refine ⟨?_, ?_, ?_⟩
    · rw [World.cell?_alloc_old _ _ _ (by simp)]; simp
    · rw [World.cell?_alloc_old _ _ _ (by simp)]; simp
    · have h := Qo.new (w.alloc (.cells #[.int .i64 v, slW q0] 24)) (.int .i64 o.k) (.string o.x) (.string o.t) (slW p0.1) (.int .i64 o.m) (.int .i64 o.f) (.int .i64 o.d) (slW p0.2) 28
      simpa using h
  have hs0 := hsW.below hB0
  have hO0 := hOW.below hB0
  have hT0 := hTW.below hB0
  go_enter Tryz.func3, Tryz.ntmps3
  obtain ⟨x0, x1, y0, y1, y2, y3, y4, y5, y6, y7⟩ := hP0
  have hP0 : PBx w.heap.size v q0 o p0 w0 := ⟨x0, x1, y0, y1, y2, y3, y4, y5, y6, y7⟩
  dsimp only at y0 y1 y2 y3 y4 y5 y6 y7
  have HPP : Hid (PBx w.heap.size v q0 o p0 w0) := hP0
  clear hP0
  go_wp2_with fail
  have hP0 := HPP.out
  clear HPP x0 x1 y0 y1 y2 y3 y4 y5 y6 y7
  refine (szStore_w v q0 l0 1048576 w0 (by omega) (by omega) hs0 hok).mono ?_
  rintro e w1 ⟨r, rfl, hcase, hb1⟩
  have hB1 := hB0.trans (hb1.mono hB0.size)
  have hs1 := hs0.below hb1
  have hO1 := hO0.below hb1
  have hT1 := hT0.below hb1
  have hP1 := hP0.below hb1 hz0
  have hz1 : w.heap.size + 2 ≤ w1.heap.size := Nat.le_trans hz0 hb1.size
  clear hs0 hO0 hT0 hP0 hB0 
  rcases hcase with rfl | ⟨r0, r1, hfx⟩
  · obtain ⟨x0, x1, y0, y1, y2, y3, y4, y5, y6, y7⟩ := hP1
    clear HSP HIM HEND HBD
    go_wp2
    go_ret
    exact ⟨rfl, hB1⟩
  have hneg : ¬ r < 0 := by omega
  obtain ⟨x0, x1, y0, y1, y2, y3, y4, y5, y6, y7⟩ := hP1
  have hP1 : PBx w.heap.size v q0 o p0 w1 := ⟨x0, x1, y0, y1, y2, y3, y4, y5, y6, y7⟩
  dsimp only at y0 y1 y2 y3 y4 y5 y6 y7
  have HPP : Hid (PBx w.heap.size v q0 o p0 w1) := hP1
  clear hP1
  go_wp2_with fail
  have hP1 := HPP.out
  clear HPP x0 x1 y0 y1 y2 y3 y4 y5 y6 y7
  refine (szOp_ft o p0 r w1 (by omega) (by omega) hO1 hoo).mono ?_
  rintro e w2 ⟨r2, rfl, hcase, hb2⟩
  have hB2 := hB1.trans (hb2.mono hB1.size)
  have hs2 := hs1.below hb2
  have hO2 := hO1.below hb2
  have hT2 := hT1.below hb2
  have hP2 := hP1.below hb2 hz1
  have hz2 : w.heap.size + 2 ≤ w2.heap.size := Nat.le_trans hz1 hb2.size
  clear hs1 hO1 hT1 hP1 hB1 
  rcases hcase with rfl | ⟨r20, -, hfo⟩
  · obtain ⟨x0, x1, y0, y1, y2, y3, y4, y5, y6, y7⟩ := hP2
    clear HSP HIM HEND HBD
    go_wp2
    go_ret
    exact ⟨rfl, hB2⟩
  have hneg2 : ¬ r2 < 0 := by omega
  clear hok hoo hb1 hb2
  obtain ⟨x0, x1, y0, y1, y2, y3, y4, y5, y6, y7⟩ := hP2
  have hP2 : PBx w.heap.size v q0 o p0 w2 := ⟨x0, x1, y0, y1, y2, y3, y4, y5, y6, y7⟩
  dsimp only at y0 y1 y2 y3 y4 y5 y6 y7
  have HPP : Hid (PBx w.heap.size v q0 o p0 w2) := hP2
  clear hP2
  go_wp2_with fail
  have hP2 := HPP.out
  clear HPP x0 x1 y0 y1 y2 y3 y4 y5 y6 y7
  refine wp_meetL [24, 25, 26, 27, 28, 6] (fun vs w' => ∃ gb su0 s0 xs0, vs.getD 5 undef = .pointer (some ⟨gb, 0, none⟩) ∧ Qc w' gb (.int .i64 rr.1, slW su0, .int .i64 rr.2.2.1, slW s0) ∧ SrK w2.heap.size rr w' su0 s0 xs0 ∧ gb ∉ blkS su0 ++ (blkS s0 ++ fpX xs0) ∧ w2.heap.size ≤ gb ∧ Below w2.heap.size w2 w') ?hmA (fun vs W hlv hR => ?_)
  case hmA =>
    have hs := hs2
    have hO := hO2
    have hT := hT2
    have hP := hP2
    have hz := hz2
    have HAP := fun s xs p lo w' h1 h2 h3 h4 h5 (_ : TabH8 w') => HSP.out s xs p lo w' h1 h2 hfx hfo h3 h4 h5
    refine wp_region_held_drew (S := fun w' => PBx w.heap.size v q0 o p0 w') (by kernel_rfl) ?hS1 (fun hHeld => ?_)
    case hS1 => exact hP
    refine wpAnyH_take (i := 0) (v := ?_) rfl (by kernel_rfl) (by kernel_rfl) (by kernel_rfl) (fun _ _ _ h => absurd h.1 (fun e => by cases e)) (Or.inl ⟨by kernel_rfl, ?hy2⟩) (by assumption) ?ty2
    case hy2 => (intro w5 hSw; (try dsimp only at hSw); obtain ⟨s0, s1, t0, t1, t2, t3, t4, t5, t6, t7⟩ := hSw; dsimp only at t0 t1 t2 t3 t4 t5 t6 t7; go_simp; all_goals with_reducible rfl)
    simp only [Act.put, List.getElem_toArray, List.getElem_cons_zero, List.setIfInBounds_toArray, List.set_cons_zero, List.set_cons_succ]
    refine wpAnyH_take (i := 2) (v := ?_) rfl (by kernel_rfl) (by kernel_rfl) (by kernel_rfl) (fun _ _ _ h => absurd h.1 (fun e => by cases e)) (Or.inl ⟨by kernel_rfl, ?hy3⟩) (by assumption) ?ty3
    case hy3 => (intro w5 hSw; (try dsimp only at hSw); obtain ⟨s0, s1, t0, t1, t2, t3, t4, t5, t6, t7⟩ := hSw; dsimp only at t0 t1 t2 t3 t4 t5 t6 t7; go_simp; all_goals with_reducible rfl)
    simp only [Act.put, List.getElem_toArray, List.getElem_cons_zero, List.getElem_cons_succ, List.setIfInBounds_toArray, List.set_cons_zero, List.set_cons_succ]
    have hby : Below w2.heap.size w2 w2.drew := (Below.refl _ _).drew
    generalize w2.drew = y at *
    refine wpAnyH_ready (rs := [1, 5]) (by kernel_rfl) (by simp) ?_
    refine AllReadyH.cons rfl (fun K hK => ?_) (AllReadyH.cons rfl (fun K hK => ?_) AllReadyH.nil)
    · go_simp
      refine (toStore_cx v q0 l0 y (hs.below hby) hfx).mono ?_
      rintro e y0 ⟨sA, xsA, rfl, cA, hcy0⟩
      have hby0 := hby.trans (hcy0.mono hby.size)
      refine hK.out _ _ (hP.below hby0 hz) (fun hHeld => ?_)
      clear hK K
      refine wpAnyH_ready (rs := [3, 5]) (by kernel_rfl) (by simp) ?_
      refine AllReadyH.cons rfl (fun K hK => ?_) (AllReadyH.cons rfl (fun K hK => ?_) AllReadyH.nil)
      · go_simp
        refine (toOp_ow o p0 y0 (hO.below hby0) hfo).mono ?_
        rintro e y1 ⟨pA, rfl, iA, zA, bA, -, -, hcy1⟩
        have cA := cA.below hcy1 (Nat.le_refl _)
        have hby1 := hby0.trans (hcy1.mono hby0.size)
        refine hK.out _ _ (hP.below hby1 hz) (fun hHeld => ?_)
        clear hK K
        refine wpAnyH_ready (rs := [4, 5]) (by kernel_rfl) (by simp) ?_
        refine AllReadyH.cons rfl (fun K hK => ?_) (AllReadyH.cons rfl (fun K hK => ?_) AllReadyH.nil)
        · go_simp
          refine (HAP sA xsA pA _ y1 cA.1 cA.2.1 iA zA bA (hT.below hby1)).mono ?_
          rintro e y2 hse
          obtain ⟨su0, s0, xs0, rfl, k0, hcy2⟩ := HEND _ _ _ hse
          clear cA iA zA bA hse
          have hby2 := hby1.trans (hcy2.mono hby1.size)
          have k0 : SrK w2.heap.size rr y2 su0 s0 xs0 := k0.low hby1.size
          refine hK.out _ _ (hP.below hby2 hz) (fun hHeld => ?_)
          clear hK K
          refine wpAnyH_ready (rs := [5]) (by kernel_rfl) (by simp) ?_
          refine AllReadyH.cons rfl (fun K hK => ?_) AllReadyH.nil
          obtain ⟨y3, hey3⟩ : ∃ W, y2.alloc (.cells #[.int .i64 0, .slice none 0 0, .int .i64 0, .slice none 0 0] 35) = W := ⟨_, rfl⟩
          have hcy3 : Below y2.heap.size y2 y3 := by rw [← hey3]; exact (Below.refl _ _).alloc (Nat.le_refl _) _
          obtain ⟨gb, hgb⟩ : ∃ gb, y2.heap.size = gb := ⟨_, rfl⟩
          have hq : Qc y3 gb (.int .i64 0, .slice none 0 0, .int .i64 0, .slice none 0 0) := by rw [← hey3, ← hgb]; exact Qc.new _ _ _ _ _ _
          have hf : Fz4 y3 gb := by rw [← hey3, ← hgb]; exact Fz4.new _ _ _ _ _ _
          have hgl : gb < y3.heap.size := hq.lt
          have hgw : w2.heap.size ≤ gb := by rw [← hgb]; exact hby2.size
          have hby3 := hby2.trans (hcy3.mono hby2.size)
          go_simp
          have hof : ∀ g ∈ blkS su0 ++ (blkS s0 ++ fpX xs0), g ≠ gb := fun g hg e => by have h1 := (k0.fp g hg).2; omega
          have k0 := k0.below hcy3 (Nat.le_refl _)
          refine hK.out _ _ (hP.below hby3 hz) (fun hHeld => ?_)
          clear hK K
          refine wpAnyH_ready (rs := [6]) (by kernel_rfl) (by simp) ?_
          refine AllReadyH.cons rfl (fun K hK => ?_) AllReadyH.nil
          have hQF : Qc ((((y3.setCell ⟨gb, 0, none⟩ (.int .i64 rr.1)).setCell ⟨gb, 1, none⟩ (slW su0)).setCell ⟨gb, 2, none⟩ (.int .i64 rr.2.2.1)).setCell ⟨gb, 3, none⟩ (slW s0)) gb (.int .i64 rr.1, slW su0, .int .i64 rr.2.2.1, slW s0) := qc_four hq _ _ _ _
          obtain ⟨q0', q1', q2', q3'⟩ := hq
          obtain ⟨f0, f1, f2, f3⟩ := hf
          dsimp only at q0' q1' q2' q3'
          have hbF : Below w2.heap.size w2 ((((y3.setCell ⟨gb, 0, none⟩ (.int .i64 rr.1)).setCell ⟨gb, 1, none⟩ (slW su0)).setCell ⟨gb, 2, none⟩ (.int .i64 rr.2.2.1)).setCell ⟨gb, 3, none⟩ (slW s0)) := ((((hby3.setCell hgw _).setCell hgw _).setCell hgw _).setCell hgw _)
          have hkF : SrK w2.heap.size rr ((((y3.setCell ⟨gb, 0, none⟩ (.int .i64 rr.1)).setCell ⟨gb, 1, none⟩ (slW su0)).setCell ⟨gb, 2, none⟩ (.int .i64 rr.2.2.1)).setCell ⟨gb, 3, none⟩ (slW s0)) su0 s0 xs0 := k0.keepK (((((Kx.refl [gb] y3).set gb _ _ (.inl (by simp))).set gb _ _ (.inl (by simp))).set gb _ _ (.inl (by simp))).set gb _ _ (.inl (by simp))) (fun g hg hc => hof g hg (by simpa using hc))
          go_simp
          obtain ⟨YF, hYF⟩ : ∃ W, ((((y3.setCell ⟨gb, 0, none⟩ (.int .i64 rr.1)).setCell ⟨gb, 1, none⟩ (slW su0)).setCell ⟨gb, 2, none⟩ (.int .i64 rr.2.2.1)).setCell ⟨gb, 3, none⟩ (slW s0)) = W := ⟨_, rfl⟩
          rw [hYF] at hQF hbF hkF ⊢
          refine hK.out _ _ (hP.below hbF hz) (fun hHeld => ?_)
          clear hK K
          refine wpAnyH_done (by kernel_rfl) ?_ _
          exact ⟨rfl, ⟨gb, su0, s0, xs0, rfl, hQF, hkF, fun hc => hof gb hc rfl, hgw, hbF⟩, rfl⟩
        · obtain ⟨y5, hey5⟩ : ∃ W, y1.alloc (.cells #[.int .i64 0, .slice none 0 0, .int .i64 0, .slice none 0 0] 35) = W := ⟨_, rfl⟩
          have hcy5 : Below y1.heap.size y1 y5 := by rw [← hey5]; exact (Below.refl _ _).alloc (Nat.le_refl _) _
          obtain ⟨gb, hgb⟩ : ∃ gb, y1.heap.size = gb := ⟨_, rfl⟩
          have hq : Qc y5 gb (.int .i64 0, .slice none 0 0, .int .i64 0, .slice none 0 0) := by rw [← hey5, ← hgb]; exact Qc.new _ _ _ _ _ _
          have hf : Fz4 y5 gb := by rw [← hey5, ← hgb]; exact Fz4.new _ _ _ _ _ _
          have hgl : gb < y5.heap.size := hq.lt
          have hgw : w2.heap.size ≤ gb := by rw [← hgb]; exact hby1.size
          have hby5 := hby1.trans (hcy5.mono hby1.size)
          go_simp
          have cA := cA.below hcy5 (Nat.le_refl _)
          have iA := iA.below hcy5
          have zA := zA.below hcy5 (Nat.le_refl _)
          have bA := bA.below hcy5 (Nat.le_refl _)
          refine hK.out _ _ (hP.below hby5 hz) (fun hHeld => ?_)
          clear hK K
          refine wpAnyH_ready (rs := [4]) (by kernel_rfl) (by simp) ?_
          refine AllReadyH.cons rfl (fun K hK => ?_) AllReadyH.nil
          go_simp
          refine (HAP sA xsA pA _ y5 cA.1 cA.2.1 iA zA bA (hT.below hby5)).mono ?_
          rintro e y6 hse
          obtain ⟨su0, s0, xs0, rfl, k0, hcy6⟩ := HEND _ _ _ hse
          clear cA iA zA bA hse
          have hby6 := hby5.trans (hcy6.mono hby5.size)
          have hof : ∀ g ∈ blkS su0 ++ (blkS s0 ++ fpX xs0), g ≠ gb := fun g hg e => by have h1 := (k0.fp g hg).1; omega
          have hq := hq.below hcy6 hgl
          have hf := hf.below hcy6 hgl
          have hgl : gb < y6.heap.size := Nat.lt_of_lt_of_le hgl hcy6.size
          have k0 : SrK w2.heap.size rr y6 su0 s0 xs0 := k0.low hby5.size
          refine hK.out _ _ (hP.below hby6 hz) (fun hHeld => ?_)
          clear hK K
          refine wpAnyH_ready (rs := [6]) (by kernel_rfl) (by simp) ?_
          refine AllReadyH.cons rfl (fun K hK => ?_) AllReadyH.nil
          have hQF : Qc ((((y6.setCell ⟨gb, 0, none⟩ (.int .i64 rr.1)).setCell ⟨gb, 1, none⟩ (slW su0)).setCell ⟨gb, 2, none⟩ (.int .i64 rr.2.2.1)).setCell ⟨gb, 3, none⟩ (slW s0)) gb (.int .i64 rr.1, slW su0, .int .i64 rr.2.2.1, slW s0) := qc_four hq _ _ _ _
          obtain ⟨q0', q1', q2', q3'⟩ := hq
          obtain ⟨f0, f1, f2, f3⟩ := hf
          dsimp only at q0' q1' q2' q3'
          have hbF : Below w2.heap.size w2 ((((y6.setCell ⟨gb, 0, none⟩ (.int .i64 rr.1)).setCell ⟨gb, 1, none⟩ (slW su0)).setCell ⟨gb, 2, none⟩ (.int .i64 rr.2.2.1)).setCell ⟨gb, 3, none⟩ (slW s0)) := ((((hby6.setCell hgw _).setCell hgw _).setCell hgw _).setCell hgw _)
          have hkF : SrK w2.heap.size rr ((((y6.setCell ⟨gb, 0, none⟩ (.int .i64 rr.1)).setCell ⟨gb, 1, none⟩ (slW su0)).setCell ⟨gb, 2, none⟩ (.int .i64 rr.2.2.1)).setCell ⟨gb, 3, none⟩ (slW s0)) su0 s0 xs0 := k0.keepK (((((Kx.refl [gb] y6).set gb _ _ (.inl (by simp))).set gb _ _ (.inl (by simp))).set gb _ _ (.inl (by simp))).set gb _ _ (.inl (by simp))) (fun g hg hc => hof g hg (by simpa using hc))
          go_simp
          obtain ⟨YF, hYF⟩ : ∃ W, ((((y6.setCell ⟨gb, 0, none⟩ (.int .i64 rr.1)).setCell ⟨gb, 1, none⟩ (slW su0)).setCell ⟨gb, 2, none⟩ (.int .i64 rr.2.2.1)).setCell ⟨gb, 3, none⟩ (slW s0)) = W := ⟨_, rfl⟩
          rw [hYF] at hQF hbF hkF ⊢
          refine hK.out _ _ (hP.below hbF hz) (fun hHeld => ?_)
          clear hK K
          refine wpAnyH_done (by kernel_rfl) ?_ _
          exact ⟨rfl, ⟨gb, su0, s0, xs0, rfl, hQF, hkF, fun hc => hof gb hc rfl, hgw, hbF⟩, rfl⟩
      · obtain ⟨y8, hey8⟩ : ∃ W, y0.alloc (.cells #[.int .i64 0, .slice none 0 0, .int .i64 0, .slice none 0 0] 35) = W := ⟨_, rfl⟩
        have hcy8 : Below y0.heap.size y0 y8 := by rw [← hey8]; exact (Below.refl _ _).alloc (Nat.le_refl _) _
        obtain ⟨gb, hgb⟩ : ∃ gb, y0.heap.size = gb := ⟨_, rfl⟩
        have hq : Qc y8 gb (.int .i64 0, .slice none 0 0, .int .i64 0, .slice none 0 0) := by rw [← hey8, ← hgb]; exact Qc.new _ _ _ _ _ _
        have hf : Fz4 y8 gb := by rw [← hey8, ← hgb]; exact Fz4.new _ _ _ _ _ _
        have hgl : gb < y8.heap.size := hq.lt
        have hgw : w2.heap.size ≤ gb := by rw [← hgb]; exact hby0.size
        have hby8 := hby0.trans (hcy8.mono hby0.size)
        go_simp
        have cA := cA.below hcy8 (Nat.le_refl _)
        refine hK.out _ _ (hP.below hby8 hz) (fun hHeld => ?_)
        clear hK K
        refine wpAnyH_ready (rs := [3]) (by kernel_rfl) (by simp) ?_
        refine AllReadyH.cons rfl (fun K hK => ?_) AllReadyH.nil
        go_simp
        refine (toOp_ow o p0 y8 (hO.below hby8) hfo).mono ?_
        rintro e y9 ⟨pA, rfl, iA, zA, bA, -, -, hcy9⟩
        have cA := cA.below hcy9 (Nat.le_refl _)
        have hby9 := hby8.trans (hcy9.mono hby8.size)
        have hq := hq.below hcy9 hgl
        have hf := hf.below hcy9 hgl
        have hgl : gb < y9.heap.size := Nat.lt_of_lt_of_le hgl hcy9.size
        refine hK.out _ _ (hP.below hby9 hz) (fun hHeld => ?_)
        clear hK K
        refine wpAnyH_ready (rs := [4]) (by kernel_rfl) (by simp) ?_
        refine AllReadyH.cons rfl (fun K hK => ?_) AllReadyH.nil
        go_simp
        refine (HAP sA xsA pA _ y9 cA.1 cA.2.1 iA zA bA (hT.below hby9)).mono ?_
        rintro e y10 hse
        obtain ⟨su0, s0, xs0, rfl, k0, hcy10⟩ := HEND _ _ _ hse
        clear cA iA zA bA hse
        have hby10 := hby9.trans (hcy10.mono hby9.size)
        have hof : ∀ g ∈ blkS su0 ++ (blkS s0 ++ fpX xs0), g ≠ gb := fun g hg e => by have h1 := (k0.fp g hg).1; omega
        have hq := hq.below hcy10 hgl
        have hf := hf.below hcy10 hgl
        have hgl : gb < y10.heap.size := Nat.lt_of_lt_of_le hgl hcy10.size
        have k0 : SrK w2.heap.size rr y10 su0 s0 xs0 := k0.low hby9.size
        refine hK.out _ _ (hP.below hby10 hz) (fun hHeld => ?_)
        clear hK K
        refine wpAnyH_ready (rs := [6]) (by kernel_rfl) (by simp) ?_
        refine AllReadyH.cons rfl (fun K hK => ?_) AllReadyH.nil
        have hQF : Qc ((((y10.setCell ⟨gb, 0, none⟩ (.int .i64 rr.1)).setCell ⟨gb, 1, none⟩ (slW su0)).setCell ⟨gb, 2, none⟩ (.int .i64 rr.2.2.1)).setCell ⟨gb, 3, none⟩ (slW s0)) gb (.int .i64 rr.1, slW su0, .int .i64 rr.2.2.1, slW s0) := qc_four hq _ _ _ _
        obtain ⟨q0', q1', q2', q3'⟩ := hq
        obtain ⟨f0, f1, f2, f3⟩ := hf
        dsimp only at q0' q1' q2' q3'
        have hbF : Below w2.heap.size w2 ((((y10.setCell ⟨gb, 0, none⟩ (.int .i64 rr.1)).setCell ⟨gb, 1, none⟩ (slW su0)).setCell ⟨gb, 2, none⟩ (.int .i64 rr.2.2.1)).setCell ⟨gb, 3, none⟩ (slW s0)) := ((((hby10.setCell hgw _).setCell hgw _).setCell hgw _).setCell hgw _)
        have hkF : SrK w2.heap.size rr ((((y10.setCell ⟨gb, 0, none⟩ (.int .i64 rr.1)).setCell ⟨gb, 1, none⟩ (slW su0)).setCell ⟨gb, 2, none⟩ (.int .i64 rr.2.2.1)).setCell ⟨gb, 3, none⟩ (slW s0)) su0 s0 xs0 := k0.keepK (((((Kx.refl [gb] y10).set gb _ _ (.inl (by simp))).set gb _ _ (.inl (by simp))).set gb _ _ (.inl (by simp))).set gb _ _ (.inl (by simp))) (fun g hg hc => hof g hg (by simpa using hc))
        go_simp
        obtain ⟨YF, hYF⟩ : ∃ W, ((((y10.setCell ⟨gb, 0, none⟩ (.int .i64 rr.1)).setCell ⟨gb, 1, none⟩ (slW su0)).setCell ⟨gb, 2, none⟩ (.int .i64 rr.2.2.1)).setCell ⟨gb, 3, none⟩ (slW s0)) = W := ⟨_, rfl⟩
        rw [hYF] at hQF hbF hkF ⊢
        refine hK.out _ _ (hP.below hbF hz) (fun hHeld => ?_)
        clear hK K
        refine wpAnyH_done (by kernel_rfl) ?_ _
        exact ⟨rfl, ⟨gb, su0, s0, xs0, rfl, hQF, hkF, fun hc => hof gb hc rfl, hgw, hbF⟩, rfl⟩
    · obtain ⟨y12, hey12⟩ : ∃ W, y.alloc (.cells #[.int .i64 0, .slice none 0 0, .int .i64 0, .slice none 0 0] 35) = W := ⟨_, rfl⟩
      have hcy12 : Below y.heap.size y y12 := by rw [← hey12]; exact (Below.refl _ _).alloc (Nat.le_refl _) _
      obtain ⟨gb, hgb⟩ : ∃ gb, y.heap.size = gb := ⟨_, rfl⟩
      have hq : Qc y12 gb (.int .i64 0, .slice none 0 0, .int .i64 0, .slice none 0 0) := by rw [← hey12, ← hgb]; exact Qc.new _ _ _ _ _ _
      have hf : Fz4 y12 gb := by rw [← hey12, ← hgb]; exact Fz4.new _ _ _ _ _ _
      have hgl : gb < y12.heap.size := hq.lt
      have hgw : w2.heap.size ≤ gb := by rw [← hgb]; exact hby.size
      have hby12 := hby.trans (hcy12.mono hby.size)
      go_simp
      refine hK.out _ _ (hP.below hby12 hz) (fun hHeld => ?_)
      clear hK K
      refine wpAnyH_ready (rs := [1]) (by kernel_rfl) (by simp) ?_
      refine AllReadyH.cons rfl (fun K hK => ?_) AllReadyH.nil
      go_simp
      refine (toStore_cx v q0 l0 y12 (hs.below hby12) hfx).mono ?_
      rintro e y13 ⟨sA, xsA, rfl, cA, hcy13⟩
      have hby13 := hby12.trans (hcy13.mono hby12.size)
      have hq := hq.below hcy13 hgl
      have hf := hf.below hcy13 hgl
      have hgl : gb < y13.heap.size := Nat.lt_of_lt_of_le hgl hcy13.size
      refine hK.out _ _ (hP.below hby13 hz) (fun hHeld => ?_)
      clear hK K
      refine wpAnyH_ready (rs := [3]) (by kernel_rfl) (by simp) ?_
      refine AllReadyH.cons rfl (fun K hK => ?_) AllReadyH.nil
      go_simp
      refine (toOp_ow o p0 y13 (hO.below hby13) hfo).mono ?_
      rintro e y14 ⟨pA, rfl, iA, zA, bA, -, -, hcy14⟩
      have cA := cA.below hcy14 (Nat.le_refl _)
      have hby14 := hby13.trans (hcy14.mono hby13.size)
      have hq := hq.below hcy14 hgl
      have hf := hf.below hcy14 hgl
      have hgl : gb < y14.heap.size := Nat.lt_of_lt_of_le hgl hcy14.size
      refine hK.out _ _ (hP.below hby14 hz) (fun hHeld => ?_)
      clear hK K
      refine wpAnyH_ready (rs := [4]) (by kernel_rfl) (by simp) ?_
      refine AllReadyH.cons rfl (fun K hK => ?_) AllReadyH.nil
      go_simp
      refine (HAP sA xsA pA _ y14 cA.1 cA.2.1 iA zA bA (hT.below hby14)).mono ?_
      rintro e y15 hse
      obtain ⟨su0, s0, xs0, rfl, k0, hcy15⟩ := HEND _ _ _ hse
      clear cA iA zA bA hse
      have hby15 := hby14.trans (hcy15.mono hby14.size)
      have hof : ∀ g ∈ blkS su0 ++ (blkS s0 ++ fpX xs0), g ≠ gb := fun g hg e => by have h1 := (k0.fp g hg).1; omega
      have hq := hq.below hcy15 hgl
      have hf := hf.below hcy15 hgl
      have hgl : gb < y15.heap.size := Nat.lt_of_lt_of_le hgl hcy15.size
      have k0 : SrK w2.heap.size rr y15 su0 s0 xs0 := k0.low hby14.size
      refine hK.out _ _ (hP.below hby15 hz) (fun hHeld => ?_)
      clear hK K
      refine wpAnyH_ready (rs := [6]) (by kernel_rfl) (by simp) ?_
      refine AllReadyH.cons rfl (fun K hK => ?_) AllReadyH.nil
      have hQF : Qc ((((y15.setCell ⟨gb, 0, none⟩ (.int .i64 rr.1)).setCell ⟨gb, 1, none⟩ (slW su0)).setCell ⟨gb, 2, none⟩ (.int .i64 rr.2.2.1)).setCell ⟨gb, 3, none⟩ (slW s0)) gb (.int .i64 rr.1, slW su0, .int .i64 rr.2.2.1, slW s0) := qc_four hq _ _ _ _
      obtain ⟨q0', q1', q2', q3'⟩ := hq
      obtain ⟨f0, f1, f2, f3⟩ := hf
      dsimp only at q0' q1' q2' q3'
      have hbF : Below w2.heap.size w2 ((((y15.setCell ⟨gb, 0, none⟩ (.int .i64 rr.1)).setCell ⟨gb, 1, none⟩ (slW su0)).setCell ⟨gb, 2, none⟩ (.int .i64 rr.2.2.1)).setCell ⟨gb, 3, none⟩ (slW s0)) := ((((hby15.setCell hgw _).setCell hgw _).setCell hgw _).setCell hgw _)
      have hkF : SrK w2.heap.size rr ((((y15.setCell ⟨gb, 0, none⟩ (.int .i64 rr.1)).setCell ⟨gb, 1, none⟩ (slW su0)).setCell ⟨gb, 2, none⟩ (.int .i64 rr.2.2.1)).setCell ⟨gb, 3, none⟩ (slW s0)) su0 s0 xs0 := k0.keepK (((((Kx.refl [gb] y15).set gb _ _ (.inl (by simp))).set gb _ _ (.inl (by simp))).set gb _ _ (.inl (by simp))).set gb _ _ (.inl (by simp))) (fun g hg hc => hof g hg (by simpa using hc))
      go_simp
      obtain ⟨YF, hYF⟩ : ∃ W, ((((y15.setCell ⟨gb, 0, none⟩ (.int .i64 rr.1)).setCell ⟨gb, 1, none⟩ (slW su0)).setCell ⟨gb, 2, none⟩ (.int .i64 rr.2.2.1)).setCell ⟨gb, 3, none⟩ (slW s0)) = W := ⟨_, rfl⟩
      rw [hYF] at hQF hbF hkF ⊢
      refine hK.out _ _ (hP.below hbF hz) (fun hHeld => ?_)
      clear hK K
      refine wpAnyH_done (by kernel_rfl) ?_ _
      exact ⟨rfl, ⟨gb, su0, s0, xs0, rfl, hQF, hkF, fun hc => hof gb hc rfl, hgw, hbF⟩, rfl⟩
  rcases vs with _ | ⟨v1, _ | ⟨v2, _ | ⟨v3, _ | ⟨v4, _ | ⟨v5, _ | ⟨v6, _ | ⟨v7, vs⟩⟩⟩⟩⟩⟩⟩
  · simp at hlv
  · simp at hlv
  · simp at hlv
  · simp at hlv
  · simp at hlv
  · simp at hlv
  rotate_left
  · simp at hlv
  obtain ⟨g0, su0, s0, xs0, hvg, qA5, k05, nA, lA, hb5⟩ := hR
  obtain rfl : v6 = .pointer (some ⟨g0, 0, none⟩) := hvg
  clear hlv HSP
  simp only [putL, Act.put, List.setIfInBounds_toArray, List.set_cons_zero, List.set_cons_succ]
  generalize W = w5 at *
  have hB5 := hB2.trans (hb5.mono hB2.size)
  have hs5 := hs2.below hb5
  have hO5 := hO2.below hb5
  have hT5 := hT2.below hb5
  have hP5 := hP2.below hb5 hz2
  have hz5 : w.heap.size + 2 ≤ w5.heap.size := Nat.le_trans hz2 hb5.size
  clear hs2 hO2 hT2 hP2 hB2 
  have l05 : ∀ g ∈ blkS su0 ++ (blkS s0 ++ fpX xs0), w2.heap.size ≤ g ∧ g < w5.heap.size := k05.fp
  have hg0 : g0 < w5.heap.size := qA5.lt
  clear hb5
  obtain ⟨x0, x1, y0, y1, y2, y3, y4, y5, y6, y7⟩ := hP5
  have hP5 : PBx w.heap.size v q0 o p0 w5 := ⟨x0, x1, y0, y1, y2, y3, y4, y5, y6, y7⟩
  dsimp only at y0 y1 y2 y3 y4 y5 y6 y7
  have HPP : Hid (PBx w.heap.size v q0 o p0 w5) := hP5
  clear hP5
  go_wp2_with fail
  have hP5 := HPP.out
  clear HPP x0 x1 y0 y1 y2 y3 y4 y5 y6 y7
  refine (toStore_cx v q0 l0 w5 hs5 hfx).mono ?_
  rintro e w6 ⟨sB, xsB, rfl, cB6, hb6⟩
  have hB6 := hB5.trans (hb6.mono hB5.size)
  have hs6 := hs5.below hb6
  have hO6 := hO5.below hb6
  have hT6 := hT5.below hb6
  have hP6 := hP5.below hb6 hz5
  have hz6 : w.heap.size + 2 ≤ w6.heap.size := Nat.le_trans hz5 hb6.size
  have k06 := k05.below hb6 (Nat.le_refl _)
  have qA6 := qA5.below hb6 qA5.lt
  clear hs5 hO5 hT5 hP5 hB5 k05 qA5
  have lB6 : ∀ g ∈ blkS sB ++ fpX xsB, w5.heap.size ≤ g ∧ g < w6.heap.size := fun g hg => ⟨cB6.2.2.2 g hg, cB6.1.lt g hg⟩
  have hz56 : w5.heap.size ≤ w6.heap.size := hb6.size
  clear hb6
  obtain ⟨w7, he7⟩ : ∃ W, w6.alloc (.cells #[.int .i64 v, slW sB] 33) = W := ⟨_, rfl⟩
  have hb7 : Below w6.heap.size w6 w7 := by rw [← he7]; exact (Below.refl _ _).alloc (Nat.le_refl _) _
  obtain ⟨gX, hgX⟩ : ∃ g, w6.heap.size = g := ⟨_, rfl⟩
  have qX7 : Dc w7 gX (.int .i64 v, slW sB) := by rw [← he7, ← hgX]; exact Dc.new _ _ _ _
  have hB7 := hB6.trans (hb7.mono hB6.size)
  have hs7 := hs6.below hb7
  have hO7 := hO6.below hb7
  have hT7 := hT6.below hb7
  have hP7 := hP6.below hb7 hz6
  have hz7 : w.heap.size + 2 ≤ w7.heap.size := Nat.le_trans hz6 hb7.size
  have k07 := k06.below hb7 (Nat.le_refl _)
  have qA7 := qA6.below hb7 qA6.lt
  have cB7 := cB6.below hb7 (Nat.le_refl _)
  clear hs6 hO6 hT6 hP6 hB6 k06 qA6 cB6
  have hz67 : Hid (w7.heap.size = gX + 1) := by show _ = _; rw [← he7, ← hgX]; simp
  clear hb7
  obtain ⟨x0, x1, y0, y1, y2, y3, y4, y5, y6, y7⟩ := hP7
  have hP7 : PBx w.heap.size v q0 o p0 w7 := ⟨x0, x1, y0, y1, y2, y3, y4, y5, y6, y7⟩
  dsimp only at y0 y1 y2 y3 y4 y5 y6 y7
  have HPP : Hid (PBx w.heap.size v q0 o p0 w7) := hP7
  clear hP7
  go_wp2_with fail
  have hP7 := HPP.out
  clear HPP x0 x1 y0 y1 y2 y3 y4 y5 y6 y7
  have HgX : Hid (w6.heap.size = gX) := hgX
  clear hgX he7
  refine (toOp_ow o p0 w7 hO7 hfo).mono ?_
  rintro e w8 ⟨pB, rfl, iB8, zB8, bB8, gB, dB, hb8⟩
  have hB8 := hB7.trans (hb8.mono hB7.size)
  have hs8 := hs7.below hb8
  have hO8 := hO7.below hb8
  have hT8 := hT7.below hb8
  have hP8 := hP7.below hb8 hz7
  have hz8 : w.heap.size + 2 ≤ w8.heap.size := Nat.le_trans hz7 hb8.size
  have k08 := k07.below hb8 (Nat.le_refl _)
  have qA8 := qA7.below hb8 qA7.lt
  have cB8 := cB7.below hb8 (Nat.le_refl _)
  have qX8 := qX7.below hb8 qX7.lt
  clear hs7 hO7 hT7 hP7 hB7 k07 qA7 cB7 qX7
  have lP8 : ∀ g ∈ blkS pB.1 ++ blkS pB.2, w7.heap.size ≤ g ∧ g < w8.heap.size := fun g hg => ⟨gB g hg, (List.mem_append.1 hg).elim (zB8.lt g) (bB8.lt g)⟩
  have hz78 : w7.heap.size ≤ w8.heap.size := hb8.size
  clear hb8
  obtain ⟨w9, he9⟩ : ∃ W, w8.alloc (.cells #[.int .i64 o.k, .string o.x, .string o.t, slW pB.1, .int .i64 o.m, .int .i64 o.f, .int .i64 o.d, slW pB.2] 38) = W := ⟨_, rfl⟩
  have hb9 : Below w8.heap.size w8 w9 := by rw [← he9]; exact (Below.refl _ _).alloc (Nat.le_refl _) _
  obtain ⟨gY, hgY⟩ : ∃ g, w8.heap.size = g := ⟨_, rfl⟩
  have qY9 : Qo w9 gY ⟨.int .i64 o.k, .string o.x, .string o.t, slW pB.1, .int .i64 o.m, .int .i64 o.f, .int .i64 o.d, slW pB.2⟩ := by rw [← he9, ← hgY]; exact Qo.new _ _ _ _ _ _ _ _ _ _
  have hB9 := hB8.trans (hb9.mono hB8.size)
  have hs9 := hs8.below hb9
  have hO9 := hO8.below hb9
  have hT9 := hT8.below hb9
  have hP9 := hP8.below hb9 hz8
  have hz9 : w.heap.size + 2 ≤ w9.heap.size := Nat.le_trans hz8 hb9.size
  have k09 := k08.below hb9 (Nat.le_refl _)
  have qA9 := qA8.below hb9 qA8.lt
  have cB9 := cB8.below hb9 (Nat.le_refl _)
  have qX9 := qX8.below hb9 qX8.lt
  have zB9 := zB8.below hb9 (Nat.le_refl _)
  have bB9 := bB8.below hb9 (Nat.le_refl _)
  have iB9 := iB8.below hb9
  clear hs8 hO8 hT8 hP8 hB8 k08 qA8 cB8 qX8 zB8 bB8 iB8
  have hz89 : Hid (w9.heap.size = gY + 1) := by show _ = _; rw [← he9, ← hgY]; simp
  clear hb9
  have HOqX : Hid (Dc w9 gX (.int .i64 v, slW sB)) := qX9
  obtain ⟨qXc0, qXc1⟩ := qX9
  dsimp only at qXc0 qXc1
  have HOqY : Hid (Qo w9 gY ⟨.int .i64 o.k, .string o.x, .string o.t, slW pB.1, .int .i64 o.m, .int .i64 o.f, .int .i64 o.d, slW pB.2⟩) := qY9
  obtain ⟨qYc0, qYc1, qYc2, qYc3, qYc4, qYc5, qYc6, qYc7⟩ := qY9
  dsimp only at qYc0 qYc1 qYc2 qYc3 qYc4 qYc5 qYc6 qYc7
  obtain ⟨x0, x1, y0, y1, y2, y3, y4, y5, y6, y7⟩ := hP9
  have hP9 : PBx w.heap.size v q0 o p0 w9 := ⟨x0, x1, y0, y1, y2, y3, y4, y5, y6, y7⟩
  dsimp only at y0 y1 y2 y3 y4 y5 y6 y7
  have HPP : Hid (PBx w.heap.size v q0 o p0 w9) := hP9
  clear hP9
  go_wp2_with fail
  have hP9 := HPP.out
  clear HPP x0 x1 y0 y1 y2 y3 y4 y5 y6 y7
  have qX9 := HOqX.out
  clear HOqX qXc0 qXc1
  have qY9 := HOqY.out
  clear HOqY qYc0 qYc1 qYc2 qYc3 qYc4 qYc5 qYc6 qYc7
  have HgY : Hid (w8.heap.size = gY) := hgY
  clear hgY he9
  refine (HIM.out sB xsB pB _ w9 cB9.1 cB9.2.1 hfx hfo iB9 zB9 hT9).mono ?_
  rintro e w10 hse
  obtain ⟨su1, s1, xs1, rfl, k110, hb10⟩ := HEND.out _ _ _ hse
  have hB10 := hB9.trans (hb10.mono hB9.size)
  have hs10 := hs9.below hb10
  have hO10 := hO9.below hb10
  have hT10 := hT9.below hb10
  have hP10 := hP9.below hb10 hz9
  have hz10 : w.heap.size + 2 ≤ w10.heap.size := Nat.le_trans hz9 hb10.size
  have k010 := k09.below hb10 (Nat.le_refl _)
  have qA10 := qA9.below hb10 qA9.lt
  have cB10 := cB9.below hb10 (Nat.le_refl _)
  have qX10 := qX9.below hb10 qX9.lt
  have zB10 := zB9.below hb10 (Nat.le_refl _)
  have bB10 := bB9.below hb10 (Nat.le_refl _)
  have iB10 := iB9.below hb10
  have qY10 := qY9.below hb10 qY9.lt
  clear hs9 hO9 hT9 hP9 hB9 k09 qA9 cB9 qX9 zB9 bB9 iB9 qY9
  have l110 : ∀ g ∈ blkS su1 ++ (blkS s1 ++ fpX xs1), w9.heap.size ≤ g ∧ g < w10.heap.size := k110.fp
  have hz910 : w9.heap.size ≤ w10.heap.size := hb10.size
  have hbd := HBD.out hfx hfo
  clear hb10 hse HBD
  obtain ⟨w11, he11⟩ : ∃ W, w10.alloc (.cells #[.int .i64 rr.1, slW su1, .int .i64 rr.2.2.1, slW s1] 35) = W := ⟨_, rfl⟩
  have hb11 : Below w10.heap.size w10 w11 := by rw [← he11]; exact (Below.refl _ _).alloc (Nat.le_refl _) _
  obtain ⟨gG, hgG⟩ : ∃ g, w10.heap.size = g := ⟨_, rfl⟩
  have qG11 : Qc w11 gG (.int .i64 rr.1, slW su1, .int .i64 rr.2.2.1, slW s1) := by rw [← he11, ← hgG]; exact Qc.new _ _ _ _ _ _
  have hB11 := hB10.trans (hb11.mono hB10.size)
  have hs11 := hs10.below hb11
  have hO11 := hO10.below hb11
  have hT11 := hT10.below hb11
  have hP11 := hP10.below hb11 hz10
  have hz11 : w.heap.size + 2 ≤ w11.heap.size := Nat.le_trans hz10 hb11.size
  have k011 := k010.below hb11 (Nat.le_refl _)
  have qA11 := qA10.below hb11 qA10.lt
  have cB11 := cB10.below hb11 (Nat.le_refl _)
  have qX11 := qX10.below hb11 qX10.lt
  have zB11 := zB10.below hb11 (Nat.le_refl _)
  have bB11 := bB10.below hb11 (Nat.le_refl _)
  have iB11 := iB10.below hb11
  have qY11 := qY10.below hb11 qY10.lt
  have k111 := k110.below hb11 (Nat.le_refl _)
  clear hs10 hO10 hT10 hP10 hB10 k010 qA10 cB10 qX10 zB10 bB10 iB10 qY10 k110
  clear hb11
  have HOqG : Hid (Qc w11 gG (.int .i64 rr.1, slW su1, .int .i64 rr.2.2.1, slW s1)) := qG11
  obtain ⟨qGc0, qGc1, qGc2, qGc3⟩ := qG11
  dsimp only at qGc0 qGc1 qGc2 qGc3
  have HOqA : Hid (Qc w11 g0 (.int .i64 rr.1, slW su0, .int .i64 rr.2.2.1, slW s0)) := qA11
  obtain ⟨qAc0, qAc1, qAc2, qAc3⟩ := qA11
  dsimp only at qAc0 qAc1 qAc2 qAc3
  obtain ⟨x0, x1, y0, y1, y2, y3, y4, y5, y6, y7⟩ := hP11
  have hP11 : PBx w.heap.size v q0 o p0 w11 := ⟨x0, x1, y0, y1, y2, y3, y4, y5, y6, y7⟩
  dsimp only at y0 y1 y2 y3 y4 y5 y6 y7
  have HPP : Hid (PBx w.heap.size v q0 o p0 w11) := hP11
  clear hP11
  go_wp2_with fail
  have hP11 := HPP.out
  clear HPP x0 x1 y0 y1 y2 y3 y4 y5 y6 y7
  have qG11 := HOqG.out
  clear HOqG qGc0 qGc1 qGc2 qGc3
  have qA11 := HOqA.out
  clear HOqA qAc0 qAc1 qAc2 qAc3
  have HgG : Hid (w10.heap.size = gG) := hgG
  clear hgG he11
  refine (k111.eq k011 hbd).mono ?_
  rintro e w12 ⟨rfl, hb12⟩
  have hB12 := hB11.trans (hb12.mono hB11.size)
  have hs12 := hs11.below hb12
  have hO12 := hO11.below hb12
  have hT12 := hT11.below hb12
  have hP12 := hP11.below hb12 hz11
  have hz12 : w.heap.size + 2 ≤ w12.heap.size := Nat.le_trans hz11 hb12.size
  have k012 := k011.below hb12 (Nat.le_refl _)
  have qA12 := qA11.below hb12 qA11.lt
  have cB12 := cB11.below hb12 (Nat.le_refl _)
  have qX12 := qX11.below hb12 qX11.lt
  have zB12 := zB11.below hb12 (Nat.le_refl _)
  have bB12 := bB11.below hb12 (Nat.le_refl _)
  have iB12 := iB11.below hb12
  have qY12 := qY11.below hb12 qY11.lt
  have k112 := k111.below hb12 (Nat.le_refl _)
  have qG12 := qG11.below hb12 qG11.lt
  clear hs11 hO11 hT11 hP11 hB11 k011 qA11 cB11 qX11 zB11 bB11 iB11 qY11 k111 qG11
  clear hb12
  have hSS : PBx w.heap.size v q0 o p0 w12 ∧ Dc w12 gX (.int .i64 v, slW sB) := ⟨hP12, qX12⟩
  go_wp2_with fail
  refine wp_region_held_drew (S := fun w' => PBx w.heap.size v q0 o p0 w' ∧ Dc w' gX (.int .i64 v, slW sB)) (by kernel_rfl) ?hS4 (fun hHeld => ?_)
  case hS4 => exact hSS
  refine wpAnyH_take (i := 0) (v := ?_) rfl (by kernel_rfl) (by kernel_rfl) (by kernel_rfl) (fun _ _ _ h => h) (Or.inl ⟨by kernel_rfl, ?hy5⟩) (by assumption) ?ty5
  case hy5 => (intro w5 hSw; (try dsimp only at hSw); obtain ⟨⟨s0, s1, t0, t1, t2, t3, t4, t5, t6, t7⟩, u0, u1⟩ := hSw; dsimp only at t0 t1 t2 t3 t4 t5 t6 t7 u0 u1; go_simp; all_goals with_reducible rfl)
  simp only [Act.put, List.getElem_toArray, List.getElem_cons_zero, List.setIfInBounds_toArray, List.set_cons_zero, List.set_cons_succ]
  refine wpAnyH_take (i := 1) (v := ?_) rfl (by kernel_rfl) (by kernel_rfl) (by kernel_rfl) (fun _ _ _ h => h) (Or.inl ⟨by kernel_rfl, ?hy6⟩) (by assumption) ?ty6
  case hy6 => (intro w5 hSw; (try dsimp only at hSw); obtain ⟨⟨s0, s1, t0, t1, t2, t3, t4, t5, t6, t7⟩, u0, u1⟩ := hSw; dsimp only at t0 t1 t2 t3 t4 t5 t6 t7 u0 u1; go_simp; all_goals with_reducible rfl)
  simp only [Act.put, List.getElem_toArray, List.getElem_cons_zero, List.getElem_cons_succ, List.setIfInBounds_toArray, List.set_cons_zero, List.set_cons_succ]
  clear hSS
  have hd12 : Below w12.heap.size w12 w12.drew := (Below.refl _ _).drew
  generalize hw12 : w12.drew = w13 at *
  have hb13 := hd12
  clear hd12 hw12
  have hB13 := hB12.trans (hb13.mono hB12.size)
  have hs13 := hs12.below hb13
  have hO13 := hO12.below hb13
  have hT13 := hT12.below hb13
  have hP13 := hP12.below hb13 hz12
  have hz13 : w.heap.size + 2 ≤ w13.heap.size := Nat.le_trans hz12 hb13.size
  have k013 := k012.below hb13 (Nat.le_refl _)
  have qA13 := qA12.below hb13 qA12.lt
  have cB13 := cB12.below hb13 (Nat.le_refl _)
  have qX13 := qX12.below hb13 qX12.lt
  have zB13 := zB12.below hb13 (Nat.le_refl _)
  have bB13 := bB12.below hb13 (Nat.le_refl _)
  have iB13 := iB12.below hb13
  have qY13 := qY12.below hb13 qY12.lt
  have k113 := k112.below hb13 (Nat.le_refl _)
  have qG13 := qG12.below hb13 qG12.lt
  clear hs12 hO12 hT12 hP12 hB12 k012 qA12 cB12 qX12 zB12 bB12 iB12 qY12 k112 qG12
  clear hb13
  refine wpAnyH_ready (rs := [2]) (by kernel_rfl) (by simp) ?_
  refine AllReadyH.cons rfl (fun K hK => ?_) AllReadyH.nil
  go_simp
  refine (toStore_cx v q0 l0 w13 hs13 hfx).mono ?_
  rintro e w14 ⟨sC, xsC, rfl, cC14, hb14⟩
  have hB14 := hB13.trans (hb14.mono hB13.size)
  have hs14 := hs13.below hb14
  have hO14 := hO13.below hb14
  have hT14 := hT13.below hb14
  have hP14 := hP13.below hb14 hz13
  have hz14 : w.heap.size + 2 ≤ w14.heap.size := Nat.le_trans hz13 hb14.size
  have k014 := k013.below hb14 (Nat.le_refl _)
  have qA14 := qA13.below hb14 qA13.lt
  have cB14 := cB13.below hb14 (Nat.le_refl _)
  have qX14 := qX13.below hb14 qX13.lt
  have zB14 := zB13.below hb14 (Nat.le_refl _)
  have bB14 := bB13.below hb14 (Nat.le_refl _)
  have iB14 := iB13.below hb14
  have qY14 := qY13.below hb14 qY13.lt
  have k114 := k113.below hb14 (Nat.le_refl _)
  have qG14 := qG13.below hb14 qG13.lt
  clear hs13 hO13 hT13 hP13 hB13 k013 qA13 cB13 qX13 zB13 bB13 iB13 qY13 k113 qG13
  clear hb14
  refine hK.out _ _ ⟨hP14, qX14⟩ (fun hHeld => ?_)
  clear hK K
  refine wpAnyH_ready (rs := [3]) (by kernel_rfl) (by simp) ?_
  refine AllReadyH.cons rfl (fun K hK => ?_) AllReadyH.nil
  go_simp
  refine (eqStore_ft v sB sC l0 w14 cB14.isx cC14.isx hfx).mono ?_
  rintro e w15 ⟨rfl, hb15⟩
  have hB15 := hB14.trans (hb15.mono hB14.size)
  have hs15 := hs14.below hb15
  have hO15 := hO14.below hb15
  have hT15 := hT14.below hb15
  have hP15 := hP14.below hb15 hz14
  have hz15 : w.heap.size + 2 ≤ w15.heap.size := Nat.le_trans hz14 hb15.size
  have k015 := k014.below hb15 (Nat.le_refl _)
  have qA15 := qA14.below hb15 qA14.lt
  have cB15 := cB14.below hb15 (Nat.le_refl _)
  have qX15 := qX14.below hb15 qX14.lt
  have zB15 := zB14.below hb15 (Nat.le_refl _)
  have bB15 := bB14.below hb15 (Nat.le_refl _)
  have iB15 := iB14.below hb15
  have qY15 := qY14.below hb15 qY14.lt
  have k115 := k114.below hb15 (Nat.le_refl _)
  have qG15 := qG14.below hb15 qG14.lt
  clear hs14 hO14 hT14 hP14 hB14 k014 qA14 cB14 qX14 zB14 bB14 iB14 qY14 k114 qG14
  clear hb15 cC14
  refine hK.out _ _ ⟨hP15, qX15⟩ (fun hHeld => ?_)
  clear hK K
  refine wpAnyH_take (i := 4) (v := ?_) rfl (by kernel_rfl) (by kernel_rfl) (by kernel_rfl) (fun _ _ _ h => h) (Or.inl ⟨by kernel_rfl, ?hy7⟩) (by assumption) ?ty7
  case hy7 => (intro w5 hSw; (try dsimp only at hSw); obtain ⟨⟨s0, s1, t0, t1, t2, t3, t4, t5, t6, t7⟩, u0, u1⟩ := hSw; dsimp only at t0 t1 t2 t3 t4 t5 t6 t7 u0 u1; go_simp; all_goals with_reducible rfl)
  simp only [Act.put, List.getElem_toArray, List.getElem_cons_zero, List.getElem_cons_succ, List.setIfInBounds_toArray, List.set_cons_zero, List.set_cons_succ]
  refine wpAnyH_done (by kernel_rfl) ?_ _
  clear hHeld
  have hSS : PBx w.heap.size v q0 o p0 w15 ∧ Qo w15 gY ⟨.int .i64 o.k, .string o.x, .string o.t, slW pB.1, .int .i64 o.m, .int .i64 o.f, .int .i64 o.d, slW pB.2⟩ := ⟨hP15, qY15⟩
  go_wp2_with fail
  refine wp_region_held_drew (S := fun w' => PBx w.heap.size v q0 o p0 w' ∧ Qo w' gY ⟨.int .i64 o.k, .string o.x, .string o.t, slW pB.1, .int .i64 o.m, .int .i64 o.f, .int .i64 o.d, slW pB.2⟩) (by kernel_rfl) ?hS8 (fun hHeld => ?_)
  case hS8 => exact hSS
  refine wpAnyH_take (i := 0) (v := ?_) rfl (by kernel_rfl) (by kernel_rfl) (by kernel_rfl) (fun _ _ _ h => h) (Or.inl ⟨by kernel_rfl, ?hy9⟩) (by assumption) ?ty9
  case hy9 => (intro w5 hSw; (try dsimp only at hSw); obtain ⟨⟨s0, s1, t0, t1, t2, t3, t4, t5, t6, t7⟩, u0, u1, u2, u3, u4, u5, u6, u7⟩ := hSw; dsimp only at t0 t1 t2 t3 t4 t5 t6 t7 u0 u1 u2 u3 u4 u5 u6 u7; go_simp; all_goals with_reducible rfl)
  simp only [Act.put, List.getElem_toArray, List.getElem_cons_zero, List.setIfInBounds_toArray, List.set_cons_zero, List.set_cons_succ]
  refine wpAnyH_take (i := 1) (v := ?_) rfl (by kernel_rfl) (by kernel_rfl) (by kernel_rfl) (fun _ _ _ h => h) (Or.inl ⟨by kernel_rfl, ?hy10⟩) (by assumption) ?ty10
  case hy10 => (intro w5 hSw; (try dsimp only at hSw); obtain ⟨⟨s0, s1, t0, t1, t2, t3, t4, t5, t6, t7⟩, u0, u1, u2, u3, u4, u5, u6, u7⟩ := hSw; dsimp only at t0 t1 t2 t3 t4 t5 t6 t7 u0 u1 u2 u3 u4 u5 u6 u7; go_simp; all_goals with_reducible rfl)
  simp only [Act.put, List.getElem_toArray, List.getElem_cons_zero, List.getElem_cons_succ, List.setIfInBounds_toArray, List.set_cons_zero, List.set_cons_succ]
  clear hSS
  have hd15 : Below w15.heap.size w15 w15.drew := (Below.refl _ _).drew
  generalize hw15 : w15.drew = w16 at *
  have hb16 := hd15
  clear hd15 hw15
  have hB16 := hB15.trans (hb16.mono hB15.size)
  have hs16 := hs15.below hb16
  have hO16 := hO15.below hb16
  have hT16 := hT15.below hb16
  have hP16 := hP15.below hb16 hz15
  have hz16 : w.heap.size + 2 ≤ w16.heap.size := Nat.le_trans hz15 hb16.size
  have k016 := k015.below hb16 (Nat.le_refl _)
  have qA16 := qA15.below hb16 qA15.lt
  have cB16 := cB15.below hb16 (Nat.le_refl _)
  have qX16 := qX15.below hb16 qX15.lt
  have zB16 := zB15.below hb16 (Nat.le_refl _)
  have bB16 := bB15.below hb16 (Nat.le_refl _)
  have iB16 := iB15.below hb16
  have qY16 := qY15.below hb16 qY15.lt
  have k116 := k115.below hb16 (Nat.le_refl _)
  have qG16 := qG15.below hb16 qG15.lt
  clear hs15 hO15 hT15 hP15 hB15 k015 qA15 cB15 qX15 zB15 bB15 iB15 qY15 k115 qG15
  clear hb16
  refine wpAnyH_ready (rs := [2]) (by kernel_rfl) (by simp) ?_
  refine AllReadyH.cons rfl (fun K hK => ?_) AllReadyH.nil
  go_simp
  refine (toOp_ow o p0 w16 hO16 hfo).mono ?_
  rintro e w17 ⟨pC, rfl, iC17, -, -, -, -, hb17⟩
  have hB17 := hB16.trans (hb17.mono hB16.size)
  have hs17 := hs16.below hb17
  have hO17 := hO16.below hb17
  have hT17 := hT16.below hb17
  have hP17 := hP16.below hb17 hz16
  have hz17 : w.heap.size + 2 ≤ w17.heap.size := Nat.le_trans hz16 hb17.size
  have k017 := k016.below hb17 (Nat.le_refl _)
  have qA17 := qA16.below hb17 qA16.lt
  have cB17 := cB16.below hb17 (Nat.le_refl _)
  have qX17 := qX16.below hb17 qX16.lt
  have zB17 := zB16.below hb17 (Nat.le_refl _)
  have bB17 := bB16.below hb17 (Nat.le_refl _)
  have iB17 := iB16.below hb17
  have qY17 := qY16.below hb17 qY16.lt
  have k117 := k116.below hb17 (Nat.le_refl _)
  have qG17 := qG16.below hb17 qG16.lt
  clear hs16 hO16 hT16 hP16 hB16 k016 qA16 cB16 qX16 zB16 bB16 iB16 qY16 k116 qG16
  clear hb17
  refine hK.out _ _ ⟨hP17, qY17⟩ (fun hHeld => ?_)
  clear hK K
  refine wpAnyH_ready (rs := [3]) (by kernel_rfl) (by simp) ?_
  refine AllReadyH.cons rfl (fun K hK => ?_) AllReadyH.nil
  go_simp
  refine (eqOp_ft o pB pC w17 iB17 iC17 hfo).mono ?_
  rintro e w18 ⟨rfl, hb18⟩
  have hB18 := hB17.trans (hb18.mono hB17.size)
  have hs18 := hs17.below hb18
  have hO18 := hO17.below hb18
  have hT18 := hT17.below hb18
  have hP18 := hP17.below hb18 hz17
  have hz18 : w.heap.size + 2 ≤ w18.heap.size := Nat.le_trans hz17 hb18.size
  have k018 := k017.below hb18 (Nat.le_refl _)
  have qA18 := qA17.below hb18 qA17.lt
  have cB18 := cB17.below hb18 (Nat.le_refl _)
  have qX18 := qX17.below hb18 qX17.lt
  have zB18 := zB17.below hb18 (Nat.le_refl _)
  have bB18 := bB17.below hb18 (Nat.le_refl _)
  have iB18 := iB17.below hb18
  have qY18 := qY17.below hb18 qY17.lt
  have k118 := k117.below hb18 (Nat.le_refl _)
  have qG18 := qG17.below hb18 qG17.lt
  clear hs17 hO17 hT17 hP17 hB17 k017 qA17 cB17 qX17 zB17 bB17 iB17 qY17 k117 qG17
  clear hb18 iC17
  refine hK.out _ _ ⟨hP18, qY18⟩ (fun hHeld => ?_)
  clear hK K
  refine wpAnyH_take (i := 4) (v := ?_) rfl (by kernel_rfl) (by kernel_rfl) (by kernel_rfl) (fun _ _ _ h => h) (Or.inl ⟨by kernel_rfl, ?hy11⟩) (by assumption) ?ty11
  case hy11 => (intro w5 hSw; (try dsimp only at hSw); obtain ⟨⟨s0, s1, t0, t1, t2, t3, t4, t5, t6, t7⟩, u0, u1, u2, u3, u4, u5, u6, u7⟩ := hSw; dsimp only at t0 t1 t2 t3 t4 t5 t6 t7 u0 u1 u2 u3 u4 u5 u6 u7; go_simp; all_goals with_reducible rfl)
  simp only [Act.put, List.getElem_toArray, List.getElem_cons_zero, List.getElem_cons_succ, List.setIfInBounds_toArray, List.set_cons_zero, List.set_cons_succ]
  refine wpAnyH_done (by kernel_rfl) ?_ _
  clear hHeld
  have HOqX : Hid (Dc w18 gX (.int .i64 v, slW sB)) := qX18
  obtain ⟨qXc0, qXc1⟩ := qX18
  dsimp only at qXc0 qXc1
  obtain ⟨x0, x1, y0, y1, y2, y3, y4, y5, y6, y7⟩ := hP18
  have hP18 : PBx w.heap.size v q0 o p0 w18 := ⟨x0, x1, y0, y1, y2, y3, y4, y5, y6, y7⟩
  dsimp only at y0 y1 y2 y3 y4 y5 y6 y7
  have HPP : Hid (PBx w.heap.size v q0 o p0 w18) := hP18
  clear hP18
  go_wp2_with fail
  have hP18 := HPP.out
  clear HPP x0 x1 y0 y1 y2 y3 y4 y5 y6 y7
  have qX18 := HOqX.out
  clear HOqX qXc0 qXc1
  have hmk : 1 + mkKx xsB ≤ 4194304 := by have h1 := mkKx_wt xsB; rw [cB18.2.1] at h1; omega
  refine (markStore_ow v sB xsB 1 w18 cB18.1 cB18.2.2.1 (Nat.le_refl _) hmk (few_ft cB18.2.1 hfx).1).mono ?_
  rintro e w19 ⟨rfl, -, hk19⟩
  have hgs : Hid (g0 < w5.heap.size ∧ w6.heap.size = gX ∧ w7.heap.size = gX + 1 ∧ w8.heap.size = gY ∧ w9.heap.size = gY + 1 ∧ w10.heap.size = gG ∧ w5.heap.size ≤ w6.heap.size ∧ w7.heap.size ≤ w8.heap.size ∧ w9.heap.size ≤ w10.heap.size ∧ w.heap.size + 2 ≤ w2.heap.size ∧ w2.heap.size ≤ g0) := ⟨hg0, HgX.out, hz67.out, HgY.out, hz89.out, HgG.out, hz56, hz78, hz910, hz2, lA⟩
  have hq19 : Below (w.heap.size + 2) w18 w19 := hk19.belowN hz18 fun g hg => by have := lB6 g hg; have h3 := hgs.out; omega
  have hB19 := hB18.trans (hq19.mono (by omega : w.heap.size ≤ w.heap.size + 2))
  have hz19 : w.heap.size + 2 ≤ w19.heap.size := Nat.le_trans hz18 hq19.size
  have hs19 := hsW.below hB19
  have hO19 := hOW.below hB19
  have hT19 : TabH8 w19 := hTW.below hB19
  have hP19 := hP18.below hq19 (Nat.le_refl _)
  have k019 := k018.keepK hk19 (fun g hg hc => by have h1 := l05 g hg; have h2 := lB6 g hc; have h3 := hgs.out; omega)
  have qA19 := qA18.kx hk19 (fun hc => by have h2 := lB6 _ hc; have h3 := hgs.out; omega)
  have qX19 := qX18.kx hk19 (fun hc => by have h2 := lB6 _ hc; have h3 := hgs.out; omega)
  have zB19 := zB18.keepK hk19 (fun g hg hc => by have h1 := lP8 g (List.mem_append_left _ hg); have h2 := lB6 g hc; have h3 := hgs.out; omega)
  have bB19 : OwB w19 pB.2 o.b := bB18.keep fun g hg => hk19.block g (bB18.lt g hg) (fun hc => by have h1 := lP8 g (List.mem_append_right _ hg); have h2 := lB6 g hc; have h3 := hgs.out; omega)
  have qY19 := qY18.kx hk19 (fun hc => by have h2 := lB6 _ hc; have h3 := hgs.out; omega)
  have k119 := k118.keepK hk19 (fun g hg hc => by have h1 := l110 g hg; have h2 := lB6 g hc; have h3 := hgs.out; omega)
  have qG19 := qG18.kx hk19 (fun hc => by have h2 := lB6 _ hc; have h3 := hgs.out; omega)
  clear hs18 hO18 hT18 hP18 hB18 k018 qA18 qX18 zB18 bB18 qY18 k118 qG18 hk19 hq19
  clear cB18 iB18
  obtain ⟨kk, hkk⟩ : ∃ kk, 1 + mkKx xsB = kk := ⟨_, rfl⟩
  rw [hkk] at hmk ⊢
  have HOqY : Hid (Qo w19 gY ⟨.int .i64 o.k, .string o.x, .string o.t, slW pB.1, .int .i64 o.m, .int .i64 o.f, .int .i64 o.d, slW pB.2⟩) := qY19
  obtain ⟨qYc0, qYc1, qYc2, qYc3, qYc4, qYc5, qYc6, qYc7⟩ := qY19
  dsimp only at qYc0 qYc1 qYc2 qYc3 qYc4 qYc5 qYc6 qYc7
  obtain ⟨x0, x1, y0, y1, y2, y3, y4, y5, y6, y7⟩ := hP19
  have hP19 : PBx w.heap.size v q0 o p0 w19 := ⟨x0, x1, y0, y1, y2, y3, y4, y5, y6, y7⟩
  dsimp only at y0 y1 y2 y3 y4 y5 y6 y7
  have HPP : Hid (PBx w.heap.size v q0 o p0 w19) := hP19
  clear hP19
  go_wp2_with fail
  have hP19 := HPP.out
  clear HPP x0 x1 y0 y1 y2 y3 y4 y5 y6 y7
  have qY19 := HOqY.out
  clear HOqY qYc0 qYc1 qYc2 qYc3 qYc4 qYc5 qYc6 qYc7
  refine (markOp_ow o pB kk w19 zB19 bB19 dB hmk hfo.2.2.1 hfo.2.2.2).mono ?_
  rintro e w20 ⟨rfl, hk20⟩
  have hq20 : Below (w.heap.size + 2) w19 w20 := hk20.belowN hz19 fun g hg => by have := lP8 g hg; have h3 := hgs.out; omega
  have hB20 := hB19.trans (hq20.mono (by omega : w.heap.size ≤ w.heap.size + 2))
  have hz20 : w.heap.size + 2 ≤ w20.heap.size := Nat.le_trans hz19 hq20.size
  have hs20 := hsW.below hB20
  have hO20 := hOW.below hB20
  have hT20 : TabH8 w20 := hTW.below hB20
  have hP20 := hP19.below hq20 (Nat.le_refl _)
  have k020 := k019.keepK hk20 (fun g hg hc => by have h1 := l05 g hg; have h2 := lP8 g hc; have h3 := hgs.out; omega)
  have qA20 := qA19.kx hk20 (fun hc => by have h2 := lP8 _ hc; have h3 := hgs.out; omega)
  have qX20 := qX19.kx hk20 (fun hc => by have h2 := lP8 _ hc; have h3 := hgs.out; omega)
  have qY20 := qY19.kx hk20 (fun hc => by have h2 := lP8 _ hc; have h3 := hgs.out; omega)
  have k120 := k119.keepK hk20 (fun g hg hc => by have h1 := l110 g hg; have h2 := lP8 g hc; have h3 := hgs.out; omega)
  have qG20 := qG19.kx hk20 (fun hc => by have h2 := lP8 _ hc; have h3 := hgs.out; omega)
  clear hs19 hO19 hT19 hP19 hB19 k019 qA19 qX19 qY19 k119 qG19 hk20 hq20
  clear zB19 bB19
  obtain ⟨k2, hk2⟩ : ∃ k2, kk + o.u.length + o.b.length = k2 := ⟨_, rfl⟩
  rw [hk2]
  have hkn : ¬ (k2 : Int) < 0 := by omega
  have HOqG : Hid (Qc w20 gG (.int .i64 rr.1, slW su1, .int .i64 rr.2.2.1, slW s1)) := qG20
  obtain ⟨qGc0, qGc1, qGc2, qGc3⟩ := qG20
  dsimp only at qGc0 qGc1 qGc2 qGc3
  have HOqA : Hid (Qc w20 g0 (.int .i64 rr.1, slW su0, .int .i64 rr.2.2.1, slW s0)) := qA20
  obtain ⟨qAc0, qAc1, qAc2, qAc3⟩ := qA20
  dsimp only at qAc0 qAc1 qAc2 qAc3
  obtain ⟨x0, x1, y0, y1, y2, y3, y4, y5, y6, y7⟩ := hP20
  have hP20 : PBx w.heap.size v q0 o p0 w20 := ⟨x0, x1, y0, y1, y2, y3, y4, y5, y6, y7⟩
  dsimp only at y0 y1 y2 y3 y4 y5 y6 y7
  have HPP : Hid (PBx w.heap.size v q0 o p0 w20) := hP20
  clear hP20
  go_wp2_with fail
  have hP20 := HPP.out
  clear HPP x0 x1 y0 y1 y2 y3 y4 y5 y6 y7
  have qG20 := HOqG.out
  clear HOqG qGc0 qGc1 qGc2 qGc3
  have qA20 := HOqA.out
  clear HOqA qAc0 qAc1 qAc2 qAc3
  refine (k120.eq k020 hbd).mono ?_
  rintro e w21 ⟨rfl, hb21⟩
  have hB21 := hB20.trans (hb21.mono hB20.size)
  have hs21 := hs20.below hb21
  have hO21 := hO20.below hb21
  have hT21 := hT20.below hb21
  have hP21 := hP20.below hb21 hz20
  have hz21 : w.heap.size + 2 ≤ w21.heap.size := Nat.le_trans hz20 hb21.size
  have k021 := k020.below hb21 (Nat.le_refl _)
  have qA21 := qA20.below hb21 qA20.lt
  have qX21 := qX20.below hb21 qX20.lt
  have qY21 := qY20.below hb21 qY20.lt
  have k121 := k120.below hb21 (Nat.le_refl _)
  have qG21 := qG20.below hb21 qG20.lt
  clear hs20 hO20 hT20 hP20 hB20 k020 qA20 qX20 qY20 k120 qG20
  clear hb21
  have HOqG : Hid (Qc w21 gG (.int .i64 rr.1, slW su1, .int .i64 rr.2.2.1, slW s1)) := qG21
  obtain ⟨qGc0, qGc1, qGc2, qGc3⟩ := qG21
  dsimp only at qGc0 qGc1 qGc2 qGc3
  obtain ⟨x0, x1, y0, y1, y2, y3, y4, y5, y6, y7⟩ := hP21
  have hP21 : PBx w.heap.size v q0 o p0 w21 := ⟨x0, x1, y0, y1, y2, y3, y4, y5, y6, y7⟩
  dsimp only at y0 y1 y2 y3 y4 y5 y6 y7
  have HPP : Hid (PBx w.heap.size v q0 o p0 w21) := hP21
  clear hP21
  go_wp2_with fail
  have hP21 := HPP.out
  clear HPP x0 x1 y0 y1 y2 y3 y4 y5 y6 y7
  have qG21 := HOqG.out
  clear HOqG qGc0 qGc1 qGc2 qGc3
  have hfw := few_bd k121.2.1.2.1 hbd.2
  have hul := hbd.1
  refine (markStoreResult_ow rr.1 rr.2.2.1 su1 s1 rr.2.1 xs1 1 w21 k121.1 k121.2.1.1 k121.2.1.2.2.1 (fun g hg => (k121.2.2 g hg).2) (Nat.le_refl _) (by omega) (by omega) (by omega) hfw.1).mono ?_
  rintro e w22 ⟨rfl, zm22, hm22, hk22⟩
  have hq22 : Below (w.heap.size + 2) w21 w22 := hk22.belowN hz21 fun g hg => by have := l110 g hg; have h3 := hgs.out; omega
  have hB22 := hB21.trans (hq22.mono (by omega : w.heap.size ≤ w.heap.size + 2))
  have hz22 : w.heap.size + 2 ≤ w22.heap.size := Nat.le_trans hz21 hq22.size
  have hs22 := hsW.below hB22
  have hO22 := hOW.below hB22
  have hT22 : TabH8 w22 := hTW.below hB22
  have hP22 := hP21.below hq22 (Nat.le_refl _)
  have k022 := k021.keepK hk22 (fun g hg hc => by have h1 := l05 g hg; have h2 := l110 g hc; have h3 := hgs.out; omega)
  have qA22 := qA21.kx hk22 (fun hc => by have h2 := l110 _ hc; have h3 := hgs.out; omega)
  have qX22 := qX21.kx hk22 (fun hc => by have h2 := l110 _ hc; have h3 := hgs.out; omega)
  have qY22 := qY21.kx hk22 (fun hc => by have h2 := l110 _ hc; have h3 := hgs.out; omega)
  have qG22 := qG21.kx hk22 (fun hc => by have h2 := l110 _ hc; have h3 := hgs.out; omega)
  clear hs21 hO21 hT21 hP21 hB21 k021 qA21 qX21 qY21 qG21 hk22 hq22
  clear k121
  obtain ⟨mm, hmm⟩ : ∃ mm, 1 + rr.2.1.length + mkKx xs1 = mm := ⟨_, rfl⟩
  have hml : mm ≤ 4194304 := by omega
  have HH : Hid (∀ w' : World, OwZ 2 w' su1 (marksI rr.2.1.length 1) → HX w' s1 (mkXs xs1 (1 + rr.2.1.length)) → Calls Tryz.prog 24 #[.agg #[.int .i64 rr.1, slW su1, .int .i64 rr.2.2.1, slW s1], .int .i64 1] w' fun e w'' => e = .returned (.int .i64 (mm : Int)) ∧ Below w'.heap.size w' w'') := fun w' h1 h2 => by rw [← hmm]; exact heldStoreResult_ow rr.1 rr.2.2.1 su1 s1 rr.2.1.length xs1 1 w' h1 h2 (Nat.le_refl _) (by omega) (by omega) (by omega) hfw.1
  rw [hmm]
  have hmn : ¬ (mm : Int) < 0 := by omega
  have HOqG : Hid (Qc w22 gG (.int .i64 rr.1, slW su1, .int .i64 rr.2.2.1, slW s1)) := qG22
  obtain ⟨qGc0, qGc1, qGc2, qGc3⟩ := qG22
  dsimp only at qGc0 qGc1 qGc2 qGc3
  obtain ⟨x0, x1, y0, y1, y2, y3, y4, y5, y6, y7⟩ := hP22
  have hP22 : PBx w.heap.size v q0 o p0 w22 := ⟨x0, x1, y0, y1, y2, y3, y4, y5, y6, y7⟩
  dsimp only at y0 y1 y2 y3 y4 y5 y6 y7
  have HPP : Hid (PBx w.heap.size v q0 o p0 w22) := hP22
  clear hP22
  go_wp2_with fail
  have hP22 := HPP.out
  clear HPP x0 x1 y0 y1 y2 y3 y4 y5 y6 y7
  have qG22 := HOqG.out
  clear HOqG qGc0 qGc1 qGc2 qGc3
  refine (HH.out w22 zm22 hm22).mono ?_
  rintro e w23 ⟨rfl, hb23⟩
  have hB23 := hB22.trans (hb23.mono hB22.size)
  have hs23 := hs22.below hb23
  have hO23 := hO22.below hb23
  have hT23 := hT22.below hb23
  have hP23 := hP22.below hb23 hz22
  have hz23 : w.heap.size + 2 ≤ w23.heap.size := Nat.le_trans hz22 hb23.size
  have k023 := k022.below hb23 (Nat.le_refl _)
  have qA23 := qA22.below hb23 qA22.lt
  have qX23 := qX22.below hb23 qX22.lt
  have qY23 := qY22.below hb23 qY22.lt
  have qG23 := qG22.below hb23 qG22.lt
  have zm23 := zm22.below hb23 (Nat.le_refl _)
  have hm23 := hm22.below hb23 (Nat.le_refl _)
  clear hs22 hO22 hT22 hP22 hB22 k022 qA22 qX22 qY22 qG22 zm22 hm22
  clear hb23
  go_wp2_with fail
  refine wp_meetL [75, 76, 77, 78, 79, 13] (fun vs w' => ∃ gb su0 s0 xs0, vs.getD 5 undef = .pointer (some ⟨gb, 0, none⟩) ∧ Qc w' gb (.int .i64 rr.1, slW su0, .int .i64 rr.2.2.1, slW s0) ∧ SrK w23.heap.size rr w' su0 s0 xs0 ∧ gb ∉ blkS su0 ++ (blkS s0 ++ fpX xs0) ∧ w23.heap.size ≤ gb ∧ Below w23.heap.size w23 w') ?hmB (fun vs W hlv hR => ?_)
  case hmB =>
    have hs := hs23
    have hO := hO23
    have hT := hT23
    have hP := hP23
    have hz := hz23
    have HAP := fun s xs p lo w' h1 h2 h3 h4 (_ : OwB w' p.2 o.b) h6 => HIM.out s xs p lo w' h1 h2 hfx hfo h3 h4 h6
    refine wp_region_held_drew (S := fun w' => PBx w.heap.size v q0 o p0 w') (by kernel_rfl) ?hS12 (fun hHeld => ?_)
    case hS12 => exact hP
    refine wpAnyH_take (i := 0) (v := ?_) rfl (by kernel_rfl) (by kernel_rfl) (by kernel_rfl) (fun _ _ _ h => absurd h.1 (fun e => by cases e)) (Or.inl ⟨by kernel_rfl, ?hy13⟩) (by assumption) ?ty13
    case hy13 => (intro w5 hSw; (try dsimp only at hSw); obtain ⟨s0, s1, t0, t1, t2, t3, t4, t5, t6, t7⟩ := hSw; dsimp only at t0 t1 t2 t3 t4 t5 t6 t7; go_simp; all_goals with_reducible rfl)
    simp only [Act.put, List.getElem_toArray, List.getElem_cons_zero, List.setIfInBounds_toArray, List.set_cons_zero, List.set_cons_succ]
    refine wpAnyH_take (i := 2) (v := ?_) rfl (by kernel_rfl) (by kernel_rfl) (by kernel_rfl) (fun _ _ _ h => absurd h.1 (fun e => by cases e)) (Or.inl ⟨by kernel_rfl, ?hy14⟩) (by assumption) ?ty14
    case hy14 => (intro w5 hSw; (try dsimp only at hSw); obtain ⟨s0, s1, t0, t1, t2, t3, t4, t5, t6, t7⟩ := hSw; dsimp only at t0 t1 t2 t3 t4 t5 t6 t7; go_simp; all_goals with_reducible rfl)
    simp only [Act.put, List.getElem_toArray, List.getElem_cons_zero, List.getElem_cons_succ, List.setIfInBounds_toArray, List.set_cons_zero, List.set_cons_succ]
    have hby : Below w23.heap.size w23 w23.drew := (Below.refl _ _).drew
    generalize w23.drew = y at *
    refine wpAnyH_ready (rs := [1, 5]) (by kernel_rfl) (by simp) ?_
    refine AllReadyH.cons rfl (fun K hK => ?_) (AllReadyH.cons rfl (fun K hK => ?_) AllReadyH.nil)
    · go_simp
      refine (toStore_cx v q0 l0 y (hs.below hby) hfx).mono ?_
      rintro e y0 ⟨sA, xsA, rfl, cA, hcy0⟩
      have hby0 := hby.trans (hcy0.mono hby.size)
      refine hK.out _ _ (hP.below hby0 hz) (fun hHeld => ?_)
      clear hK K
      refine wpAnyH_ready (rs := [3, 5]) (by kernel_rfl) (by simp) ?_
      refine AllReadyH.cons rfl (fun K hK => ?_) (AllReadyH.cons rfl (fun K hK => ?_) AllReadyH.nil)
      · go_simp
        refine (toOp_ow o p0 y0 (hO.below hby0) hfo).mono ?_
        rintro e y1 ⟨pA, rfl, iA, zA, bA, -, -, hcy1⟩
        have cA := cA.below hcy1 (Nat.le_refl _)
        have hby1 := hby0.trans (hcy1.mono hby0.size)
        refine hK.out _ _ (hP.below hby1 hz) (fun hHeld => ?_)
        clear hK K
        refine wpAnyH_ready (rs := [4, 5]) (by kernel_rfl) (by simp) ?_
        refine AllReadyH.cons rfl (fun K hK => ?_) (AllReadyH.cons rfl (fun K hK => ?_) AllReadyH.nil)
        · go_simp
          refine (HAP sA xsA pA _ y1 cA.1 cA.2.1 iA zA bA (hT.below hby1)).mono ?_
          rintro e y2 hse
          obtain ⟨su0, s0, xs0, rfl, k0, hcy2⟩ := HEND _ _ _ hse
          clear cA iA zA bA hse
          have hby2 := hby1.trans (hcy2.mono hby1.size)
          have k0 : SrK w23.heap.size rr y2 su0 s0 xs0 := k0.low hby1.size
          refine hK.out _ _ (hP.below hby2 hz) (fun hHeld => ?_)
          clear hK K
          refine wpAnyH_ready (rs := [5]) (by kernel_rfl) (by simp) ?_
          refine AllReadyH.cons rfl (fun K hK => ?_) AllReadyH.nil
          obtain ⟨y3, hey3⟩ : ∃ W, y2.alloc (.cells #[.int .i64 0, .slice none 0 0, .int .i64 0, .slice none 0 0] 35) = W := ⟨_, rfl⟩
          have hcy3 : Below y2.heap.size y2 y3 := by rw [← hey3]; exact (Below.refl _ _).alloc (Nat.le_refl _) _
          obtain ⟨gb, hgb⟩ : ∃ gb, y2.heap.size = gb := ⟨_, rfl⟩
          have hq : Qc y3 gb (.int .i64 0, .slice none 0 0, .int .i64 0, .slice none 0 0) := by rw [← hey3, ← hgb]; exact Qc.new _ _ _ _ _ _
          have hf : Fz4 y3 gb := by rw [← hey3, ← hgb]; exact Fz4.new _ _ _ _ _ _
          have hgl : gb < y3.heap.size := hq.lt
          have hgw : w23.heap.size ≤ gb := by rw [← hgb]; exact hby2.size
          have hby3 := hby2.trans (hcy3.mono hby2.size)
          go_simp
          have hof : ∀ g ∈ blkS su0 ++ (blkS s0 ++ fpX xs0), g ≠ gb := fun g hg e => by have h1 := (k0.fp g hg).2; omega
          have k0 := k0.below hcy3 (Nat.le_refl _)
          refine hK.out _ _ (hP.below hby3 hz) (fun hHeld => ?_)
          clear hK K
          refine wpAnyH_ready (rs := [6]) (by kernel_rfl) (by simp) ?_
          refine AllReadyH.cons rfl (fun K hK => ?_) AllReadyH.nil
          have hQF : Qc ((((y3.setCell ⟨gb, 0, none⟩ (.int .i64 rr.1)).setCell ⟨gb, 1, none⟩ (slW su0)).setCell ⟨gb, 2, none⟩ (.int .i64 rr.2.2.1)).setCell ⟨gb, 3, none⟩ (slW s0)) gb (.int .i64 rr.1, slW su0, .int .i64 rr.2.2.1, slW s0) := qc_four hq _ _ _ _
          obtain ⟨q0', q1', q2', q3'⟩ := hq
          obtain ⟨f0, f1, f2, f3⟩ := hf
          dsimp only at q0' q1' q2' q3'
          have hbF : Below w23.heap.size w23 ((((y3.setCell ⟨gb, 0, none⟩ (.int .i64 rr.1)).setCell ⟨gb, 1, none⟩ (slW su0)).setCell ⟨gb, 2, none⟩ (.int .i64 rr.2.2.1)).setCell ⟨gb, 3, none⟩ (slW s0)) := ((((hby3.setCell hgw _).setCell hgw _).setCell hgw _).setCell hgw _)
          have hkF : SrK w23.heap.size rr ((((y3.setCell ⟨gb, 0, none⟩ (.int .i64 rr.1)).setCell ⟨gb, 1, none⟩ (slW su0)).setCell ⟨gb, 2, none⟩ (.int .i64 rr.2.2.1)).setCell ⟨gb, 3, none⟩ (slW s0)) su0 s0 xs0 := k0.keepK (((((Kx.refl [gb] y3).set gb _ _ (.inl (by simp))).set gb _ _ (.inl (by simp))).set gb _ _ (.inl (by simp))).set gb _ _ (.inl (by simp))) (fun g hg hc => hof g hg (by simpa using hc))
          go_simp
          obtain ⟨YF, hYF⟩ : ∃ W, ((((y3.setCell ⟨gb, 0, none⟩ (.int .i64 rr.1)).setCell ⟨gb, 1, none⟩ (slW su0)).setCell ⟨gb, 2, none⟩ (.int .i64 rr.2.2.1)).setCell ⟨gb, 3, none⟩ (slW s0)) = W := ⟨_, rfl⟩
          rw [hYF] at hQF hbF hkF ⊢
          refine hK.out _ _ (hP.below hbF hz) (fun hHeld => ?_)
          clear hK K
          refine wpAnyH_done (by kernel_rfl) ?_ _
          exact ⟨rfl, ⟨gb, su0, s0, xs0, rfl, hQF, hkF, fun hc => hof gb hc rfl, hgw, hbF⟩, rfl⟩
        · obtain ⟨y5, hey5⟩ : ∃ W, y1.alloc (.cells #[.int .i64 0, .slice none 0 0, .int .i64 0, .slice none 0 0] 35) = W := ⟨_, rfl⟩
          have hcy5 : Below y1.heap.size y1 y5 := by rw [← hey5]; exact (Below.refl _ _).alloc (Nat.le_refl _) _
          obtain ⟨gb, hgb⟩ : ∃ gb, y1.heap.size = gb := ⟨_, rfl⟩
          have hq : Qc y5 gb (.int .i64 0, .slice none 0 0, .int .i64 0, .slice none 0 0) := by rw [← hey5, ← hgb]; exact Qc.new _ _ _ _ _ _
          have hf : Fz4 y5 gb := by rw [← hey5, ← hgb]; exact Fz4.new _ _ _ _ _ _
          have hgl : gb < y5.heap.size := hq.lt
          have hgw : w23.heap.size ≤ gb := by rw [← hgb]; exact hby1.size
          have hby5 := hby1.trans (hcy5.mono hby1.size)
          go_simp
          have cA := cA.below hcy5 (Nat.le_refl _)
          have iA := iA.below hcy5
          have zA := zA.below hcy5 (Nat.le_refl _)
          have bA := bA.below hcy5 (Nat.le_refl _)
          refine hK.out _ _ (hP.below hby5 hz) (fun hHeld => ?_)
          clear hK K
          refine wpAnyH_ready (rs := [4]) (by kernel_rfl) (by simp) ?_
          refine AllReadyH.cons rfl (fun K hK => ?_) AllReadyH.nil
          go_simp
          refine (HAP sA xsA pA _ y5 cA.1 cA.2.1 iA zA bA (hT.below hby5)).mono ?_
          rintro e y6 hse
          obtain ⟨su0, s0, xs0, rfl, k0, hcy6⟩ := HEND _ _ _ hse
          clear cA iA zA bA hse
          have hby6 := hby5.trans (hcy6.mono hby5.size)
          have hof : ∀ g ∈ blkS su0 ++ (blkS s0 ++ fpX xs0), g ≠ gb := fun g hg e => by have h1 := (k0.fp g hg).1; omega
          have hq := hq.below hcy6 hgl
          have hf := hf.below hcy6 hgl
          have hgl : gb < y6.heap.size := Nat.lt_of_lt_of_le hgl hcy6.size
          have k0 : SrK w23.heap.size rr y6 su0 s0 xs0 := k0.low hby5.size
          refine hK.out _ _ (hP.below hby6 hz) (fun hHeld => ?_)
          clear hK K
          refine wpAnyH_ready (rs := [6]) (by kernel_rfl) (by simp) ?_
          refine AllReadyH.cons rfl (fun K hK => ?_) AllReadyH.nil
          have hQF : Qc ((((y6.setCell ⟨gb, 0, none⟩ (.int .i64 rr.1)).setCell ⟨gb, 1, none⟩ (slW su0)).setCell ⟨gb, 2, none⟩ (.int .i64 rr.2.2.1)).setCell ⟨gb, 3, none⟩ (slW s0)) gb (.int .i64 rr.1, slW su0, .int .i64 rr.2.2.1, slW s0) := qc_four hq _ _ _ _
          obtain ⟨q0', q1', q2', q3'⟩ := hq
          obtain ⟨f0, f1, f2, f3⟩ := hf
          dsimp only at q0' q1' q2' q3'
          have hbF : Below w23.heap.size w23 ((((y6.setCell ⟨gb, 0, none⟩ (.int .i64 rr.1)).setCell ⟨gb, 1, none⟩ (slW su0)).setCell ⟨gb, 2, none⟩ (.int .i64 rr.2.2.1)).setCell ⟨gb, 3, none⟩ (slW s0)) := ((((hby6.setCell hgw _).setCell hgw _).setCell hgw _).setCell hgw _)
          have hkF : SrK w23.heap.size rr ((((y6.setCell ⟨gb, 0, none⟩ (.int .i64 rr.1)).setCell ⟨gb, 1, none⟩ (slW su0)).setCell ⟨gb, 2, none⟩ (.int .i64 rr.2.2.1)).setCell ⟨gb, 3, none⟩ (slW s0)) su0 s0 xs0 := k0.keepK (((((Kx.refl [gb] y6).set gb _ _ (.inl (by simp))).set gb _ _ (.inl (by simp))).set gb _ _ (.inl (by simp))).set gb _ _ (.inl (by simp))) (fun g hg hc => hof g hg (by simpa using hc))
          go_simp
          obtain ⟨YF, hYF⟩ : ∃ W, ((((y6.setCell ⟨gb, 0, none⟩ (.int .i64 rr.1)).setCell ⟨gb, 1, none⟩ (slW su0)).setCell ⟨gb, 2, none⟩ (.int .i64 rr.2.2.1)).setCell ⟨gb, 3, none⟩ (slW s0)) = W := ⟨_, rfl⟩
          rw [hYF] at hQF hbF hkF ⊢
          refine hK.out _ _ (hP.below hbF hz) (fun hHeld => ?_)
          clear hK K
          refine wpAnyH_done (by kernel_rfl) ?_ _
          exact ⟨rfl, ⟨gb, su0, s0, xs0, rfl, hQF, hkF, fun hc => hof gb hc rfl, hgw, hbF⟩, rfl⟩
      · obtain ⟨y8, hey8⟩ : ∃ W, y0.alloc (.cells #[.int .i64 0, .slice none 0 0, .int .i64 0, .slice none 0 0] 35) = W := ⟨_, rfl⟩
        have hcy8 : Below y0.heap.size y0 y8 := by rw [← hey8]; exact (Below.refl _ _).alloc (Nat.le_refl _) _
        obtain ⟨gb, hgb⟩ : ∃ gb, y0.heap.size = gb := ⟨_, rfl⟩
        have hq : Qc y8 gb (.int .i64 0, .slice none 0 0, .int .i64 0, .slice none 0 0) := by rw [← hey8, ← hgb]; exact Qc.new _ _ _ _ _ _
        have hf : Fz4 y8 gb := by rw [← hey8, ← hgb]; exact Fz4.new _ _ _ _ _ _
        have hgl : gb < y8.heap.size := hq.lt
        have hgw : w23.heap.size ≤ gb := by rw [← hgb]; exact hby0.size
        have hby8 := hby0.trans (hcy8.mono hby0.size)
        go_simp
        have cA := cA.below hcy8 (Nat.le_refl _)
        refine hK.out _ _ (hP.below hby8 hz) (fun hHeld => ?_)
        clear hK K
        refine wpAnyH_ready (rs := [3]) (by kernel_rfl) (by simp) ?_
        refine AllReadyH.cons rfl (fun K hK => ?_) AllReadyH.nil
        go_simp
        refine (toOp_ow o p0 y8 (hO.below hby8) hfo).mono ?_
        rintro e y9 ⟨pA, rfl, iA, zA, bA, -, -, hcy9⟩
        have cA := cA.below hcy9 (Nat.le_refl _)
        have hby9 := hby8.trans (hcy9.mono hby8.size)
        have hq := hq.below hcy9 hgl
        have hf := hf.below hcy9 hgl
        have hgl : gb < y9.heap.size := Nat.lt_of_lt_of_le hgl hcy9.size
        refine hK.out _ _ (hP.below hby9 hz) (fun hHeld => ?_)
        clear hK K
        refine wpAnyH_ready (rs := [4]) (by kernel_rfl) (by simp) ?_
        refine AllReadyH.cons rfl (fun K hK => ?_) AllReadyH.nil
        go_simp
        refine (HAP sA xsA pA _ y9 cA.1 cA.2.1 iA zA bA (hT.below hby9)).mono ?_
        rintro e y10 hse
        obtain ⟨su0, s0, xs0, rfl, k0, hcy10⟩ := HEND _ _ _ hse
        clear cA iA zA bA hse
        have hby10 := hby9.trans (hcy10.mono hby9.size)
        have hof : ∀ g ∈ blkS su0 ++ (blkS s0 ++ fpX xs0), g ≠ gb := fun g hg e => by have h1 := (k0.fp g hg).1; omega
        have hq := hq.below hcy10 hgl
        have hf := hf.below hcy10 hgl
        have hgl : gb < y10.heap.size := Nat.lt_of_lt_of_le hgl hcy10.size
        have k0 : SrK w23.heap.size rr y10 su0 s0 xs0 := k0.low hby9.size
        refine hK.out _ _ (hP.below hby10 hz) (fun hHeld => ?_)
        clear hK K
        refine wpAnyH_ready (rs := [6]) (by kernel_rfl) (by simp) ?_
        refine AllReadyH.cons rfl (fun K hK => ?_) AllReadyH.nil
        have hQF : Qc ((((y10.setCell ⟨gb, 0, none⟩ (.int .i64 rr.1)).setCell ⟨gb, 1, none⟩ (slW su0)).setCell ⟨gb, 2, none⟩ (.int .i64 rr.2.2.1)).setCell ⟨gb, 3, none⟩ (slW s0)) gb (.int .i64 rr.1, slW su0, .int .i64 rr.2.2.1, slW s0) := qc_four hq _ _ _ _
        obtain ⟨q0', q1', q2', q3'⟩ := hq
        obtain ⟨f0, f1, f2, f3⟩ := hf
        dsimp only at q0' q1' q2' q3'
        have hbF : Below w23.heap.size w23 ((((y10.setCell ⟨gb, 0, none⟩ (.int .i64 rr.1)).setCell ⟨gb, 1, none⟩ (slW su0)).setCell ⟨gb, 2, none⟩ (.int .i64 rr.2.2.1)).setCell ⟨gb, 3, none⟩ (slW s0)) := ((((hby10.setCell hgw _).setCell hgw _).setCell hgw _).setCell hgw _)
        have hkF : SrK w23.heap.size rr ((((y10.setCell ⟨gb, 0, none⟩ (.int .i64 rr.1)).setCell ⟨gb, 1, none⟩ (slW su0)).setCell ⟨gb, 2, none⟩ (.int .i64 rr.2.2.1)).setCell ⟨gb, 3, none⟩ (slW s0)) su0 s0 xs0 := k0.keepK (((((Kx.refl [gb] y10).set gb _ _ (.inl (by simp))).set gb _ _ (.inl (by simp))).set gb _ _ (.inl (by simp))).set gb _ _ (.inl (by simp))) (fun g hg hc => hof g hg (by simpa using hc))
        go_simp
        obtain ⟨YF, hYF⟩ : ∃ W, ((((y10.setCell ⟨gb, 0, none⟩ (.int .i64 rr.1)).setCell ⟨gb, 1, none⟩ (slW su0)).setCell ⟨gb, 2, none⟩ (.int .i64 rr.2.2.1)).setCell ⟨gb, 3, none⟩ (slW s0)) = W := ⟨_, rfl⟩
        rw [hYF] at hQF hbF hkF ⊢
        refine hK.out _ _ (hP.below hbF hz) (fun hHeld => ?_)
        clear hK K
        refine wpAnyH_done (by kernel_rfl) ?_ _
        exact ⟨rfl, ⟨gb, su0, s0, xs0, rfl, hQF, hkF, fun hc => hof gb hc rfl, hgw, hbF⟩, rfl⟩
    · obtain ⟨y12, hey12⟩ : ∃ W, y.alloc (.cells #[.int .i64 0, .slice none 0 0, .int .i64 0, .slice none 0 0] 35) = W := ⟨_, rfl⟩
      have hcy12 : Below y.heap.size y y12 := by rw [← hey12]; exact (Below.refl _ _).alloc (Nat.le_refl _) _
      obtain ⟨gb, hgb⟩ : ∃ gb, y.heap.size = gb := ⟨_, rfl⟩
      have hq : Qc y12 gb (.int .i64 0, .slice none 0 0, .int .i64 0, .slice none 0 0) := by rw [← hey12, ← hgb]; exact Qc.new _ _ _ _ _ _
      have hf : Fz4 y12 gb := by rw [← hey12, ← hgb]; exact Fz4.new _ _ _ _ _ _
      have hgl : gb < y12.heap.size := hq.lt
      have hgw : w23.heap.size ≤ gb := by rw [← hgb]; exact hby.size
      have hby12 := hby.trans (hcy12.mono hby.size)
      go_simp
      refine hK.out _ _ (hP.below hby12 hz) (fun hHeld => ?_)
      clear hK K
      refine wpAnyH_ready (rs := [1]) (by kernel_rfl) (by simp) ?_
      refine AllReadyH.cons rfl (fun K hK => ?_) AllReadyH.nil
      go_simp
      refine (toStore_cx v q0 l0 y12 (hs.below hby12) hfx).mono ?_
      rintro e y13 ⟨sA, xsA, rfl, cA, hcy13⟩
      have hby13 := hby12.trans (hcy13.mono hby12.size)
      have hq := hq.below hcy13 hgl
      have hf := hf.below hcy13 hgl
      have hgl : gb < y13.heap.size := Nat.lt_of_lt_of_le hgl hcy13.size
      refine hK.out _ _ (hP.below hby13 hz) (fun hHeld => ?_)
      clear hK K
      refine wpAnyH_ready (rs := [3]) (by kernel_rfl) (by simp) ?_
      refine AllReadyH.cons rfl (fun K hK => ?_) AllReadyH.nil
      go_simp
      refine (toOp_ow o p0 y13 (hO.below hby13) hfo).mono ?_
      rintro e y14 ⟨pA, rfl, iA, zA, bA, -, -, hcy14⟩
      have cA := cA.below hcy14 (Nat.le_refl _)
      have hby14 := hby13.trans (hcy14.mono hby13.size)
      have hq := hq.below hcy14 hgl
      have hf := hf.below hcy14 hgl
      have hgl : gb < y14.heap.size := Nat.lt_of_lt_of_le hgl hcy14.size
      refine hK.out _ _ (hP.below hby14 hz) (fun hHeld => ?_)
      clear hK K
      refine wpAnyH_ready (rs := [4]) (by kernel_rfl) (by simp) ?_
      refine AllReadyH.cons rfl (fun K hK => ?_) AllReadyH.nil
      go_simp
      refine (HAP sA xsA pA _ y14 cA.1 cA.2.1 iA zA bA (hT.below hby14)).mono ?_
      rintro e y15 hse
      obtain ⟨su0, s0, xs0, rfl, k0, hcy15⟩ := HEND _ _ _ hse
      clear cA iA zA bA hse
      have hby15 := hby14.trans (hcy15.mono hby14.size)
      have hof : ∀ g ∈ blkS su0 ++ (blkS s0 ++ fpX xs0), g ≠ gb := fun g hg e => by have h1 := (k0.fp g hg).1; omega
      have hq := hq.below hcy15 hgl
      have hf := hf.below hcy15 hgl
      have hgl : gb < y15.heap.size := Nat.lt_of_lt_of_le hgl hcy15.size
      have k0 : SrK w23.heap.size rr y15 su0 s0 xs0 := k0.low hby14.size
      refine hK.out _ _ (hP.below hby15 hz) (fun hHeld => ?_)
      clear hK K
      refine wpAnyH_ready (rs := [6]) (by kernel_rfl) (by simp) ?_
      refine AllReadyH.cons rfl (fun K hK => ?_) AllReadyH.nil
      have hQF : Qc ((((y15.setCell ⟨gb, 0, none⟩ (.int .i64 rr.1)).setCell ⟨gb, 1, none⟩ (slW su0)).setCell ⟨gb, 2, none⟩ (.int .i64 rr.2.2.1)).setCell ⟨gb, 3, none⟩ (slW s0)) gb (.int .i64 rr.1, slW su0, .int .i64 rr.2.2.1, slW s0) := qc_four hq _ _ _ _
      obtain ⟨q0', q1', q2', q3'⟩ := hq
      obtain ⟨f0, f1, f2, f3⟩ := hf
      dsimp only at q0' q1' q2' q3'
      have hbF : Below w23.heap.size w23 ((((y15.setCell ⟨gb, 0, none⟩ (.int .i64 rr.1)).setCell ⟨gb, 1, none⟩ (slW su0)).setCell ⟨gb, 2, none⟩ (.int .i64 rr.2.2.1)).setCell ⟨gb, 3, none⟩ (slW s0)) := ((((hby15.setCell hgw _).setCell hgw _).setCell hgw _).setCell hgw _)
      have hkF : SrK w23.heap.size rr ((((y15.setCell ⟨gb, 0, none⟩ (.int .i64 rr.1)).setCell ⟨gb, 1, none⟩ (slW su0)).setCell ⟨gb, 2, none⟩ (.int .i64 rr.2.2.1)).setCell ⟨gb, 3, none⟩ (slW s0)) su0 s0 xs0 := k0.keepK (((((Kx.refl [gb] y15).set gb _ _ (.inl (by simp))).set gb _ _ (.inl (by simp))).set gb _ _ (.inl (by simp))).set gb _ _ (.inl (by simp))) (fun g hg hc => hof g hg (by simpa using hc))
      go_simp
      obtain ⟨YF, hYF⟩ : ∃ W, ((((y15.setCell ⟨gb, 0, none⟩ (.int .i64 rr.1)).setCell ⟨gb, 1, none⟩ (slW su0)).setCell ⟨gb, 2, none⟩ (.int .i64 rr.2.2.1)).setCell ⟨gb, 3, none⟩ (slW s0)) = W := ⟨_, rfl⟩
      rw [hYF] at hQF hbF hkF ⊢
      refine hK.out _ _ (hP.below hbF hz) (fun hHeld => ?_)
      clear hK K
      refine wpAnyH_done (by kernel_rfl) ?_ _
      exact ⟨rfl, ⟨gb, su0, s0, xs0, rfl, hQF, hkF, fun hc => hof gb hc rfl, hgw, hbF⟩, rfl⟩
  rcases vs with _ | ⟨v1, _ | ⟨v2, _ | ⟨v3, _ | ⟨v4, _ | ⟨v5, _ | ⟨v6, _ | ⟨v7, vs⟩⟩⟩⟩⟩⟩⟩
  · simp at hlv
  · simp at hlv
  · simp at hlv
  · simp at hlv
  · simp at hlv
  · simp at hlv
  rotate_left
  · simp at hlv
  obtain ⟨gH, su2, s2, xs2, hvg, qH24, k224, nH, lH, hb24⟩ := hR
  obtain rfl : v6 = .pointer (some ⟨gH, 0, none⟩) := hvg
  clear hlv
  simp only [putL, Act.put, List.setIfInBounds_toArray, List.set_cons_zero, List.set_cons_succ]
  generalize W = w24 at *
  have hB24 := hB23.trans (hb24.mono hB23.size)
  have hs24 := hs23.below hb24
  have hO24 := hO23.below hb24
  have hT24 := hT23.below hb24
  have hP24 := hP23.below hb24 hz23
  have hz24 : w.heap.size + 2 ≤ w24.heap.size := Nat.le_trans hz23 hb24.size
  have k024 := k023.below hb24 (Nat.le_refl _)
  have qA24 := qA23.below hb24 qA23.lt
  have qX24 := qX23.below hb24 qX23.lt
  have qY24 := qY23.below hb24 qY23.lt
  have qG24 := qG23.below hb24 qG23.lt
  have zm24 := zm23.below hb24 (Nat.le_refl _)
  have hm24 := hm23.below hb24 (Nat.le_refl _)
  clear hs23 hO23 hT23 hP23 hB23 k023 qA23 qX23 qY23 qG23 zm23 hm23
  clear hb24
  have HOqH : Hid (Qc w24 gH (.int .i64 rr.1, slW su2, .int .i64 rr.2.2.1, slW s2)) := qH24
  obtain ⟨qHc0, qHc1, qHc2, qHc3⟩ := qH24
  dsimp only at qHc0 qHc1 qHc2 qHc3
  have HOqA : Hid (Qc w24 g0 (.int .i64 rr.1, slW su0, .int .i64 rr.2.2.1, slW s0)) := qA24
  obtain ⟨qAc0, qAc1, qAc2, qAc3⟩ := qA24
  dsimp only at qAc0 qAc1 qAc2 qAc3
  obtain ⟨x0, x1, y0, y1, y2, y3, y4, y5, y6, y7⟩ := hP24
  have hP24 : PBx w.heap.size v q0 o p0 w24 := ⟨x0, x1, y0, y1, y2, y3, y4, y5, y6, y7⟩
  dsimp only at y0 y1 y2 y3 y4 y5 y6 y7
  have HPP : Hid (PBx w.heap.size v q0 o p0 w24) := hP24
  clear hP24
  go_wp2_with fail
  have hP24 := HPP.out
  clear HPP x0 x1 y0 y1 y2 y3 y4 y5 y6 y7
  have qH24 := HOqH.out
  clear HOqH qHc0 qHc1 qHc2 qHc3
  have qA24 := HOqA.out
  clear HOqA qAc0 qAc1 qAc2 qAc3
  refine (k224.eq k024 hbd).mono ?_
  rintro e w25 ⟨rfl, hb25⟩
  have hB25 := hB24.trans (hb25.mono hB24.size)
  have hs25 := hs24.below hb25
  have hO25 := hO24.below hb25
  have hT25 := hT24.below hb25
  have hP25 := hP24.below hb25 hz24
  have hz25 : w.heap.size + 2 ≤ w25.heap.size := Nat.le_trans hz24 hb25.size
  have k025 := k024.below hb25 (Nat.le_refl _)
  have qA25 := qA24.below hb25 qA24.lt
  have qX25 := qX24.below hb25 qX24.lt
  have qY25 := qY24.below hb25 qY24.lt
  have qG25 := qG24.below hb25 qG24.lt
  have zm25 := zm24.below hb25 (Nat.le_refl _)
  have hm25 := hm24.below hb25 (Nat.le_refl _)
  have k225 := k224.below hb25 (Nat.le_refl _)
  have qH25 := qH24.below hb25 qH24.lt
  clear hs24 hO24 hT24 hP24 hB24 k024 qA24 qX24 qY24 qG24 zm24 hm24 k224 qH24
  clear hb25
  have HOqG : Hid (Qc w25 gG (.int .i64 rr.1, slW su1, .int .i64 rr.2.2.1, slW s1)) := qG25
  obtain ⟨qGc0, qGc1, qGc2, qGc3⟩ := qG25
  dsimp only at qGc0 qGc1 qGc2 qGc3
  obtain ⟨x0, x1, y0, y1, y2, y3, y4, y5, y6, y7⟩ := hP25
  have hP25 : PBx w.heap.size v q0 o p0 w25 := ⟨x0, x1, y0, y1, y2, y3, y4, y5, y6, y7⟩
  dsimp only at y0 y1 y2 y3 y4 y5 y6 y7
  have HPP : Hid (PBx w.heap.size v q0 o p0 w25) := hP25
  clear hP25
  go_wp2_with fail
  have hP25 := HPP.out
  clear HPP x0 x1 y0 y1 y2 y3 y4 y5 y6 y7
  have qG25 := HOqG.out
  clear HOqG qGc0 qGc1 qGc2 qGc3
  refine (HH.out w25 zm25 hm25).mono ?_
  rintro e w26 ⟨rfl, hb26⟩
  have hB26 := hB25.trans (hb26.mono hB25.size)
  clear HIM HEND HH
  go_wp2
  go_ret
  exact ⟨rfl, hB26⟩
end Go.Proofs.YtejbbnpgghpgaaaGreatDoor
