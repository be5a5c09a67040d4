/- The draw of a list of ops that is packed; no conditions beyond those that each fact names. -/
import Derived.Test.YtdcgihcjiiemdaaDoorDob
import Derived.Test.YtdcgihcjiiemdaaDoorLgkToJnw
import Derived.Test.YtdcgihcjiiemdaaDoorOrmToJrq
namespace Go.Proofs.YtdcgihcjiiemdaaDoor
open Go.RowKit
set_option linter.unusedVariables false
def InT (k m : Nat) (s : SlQ) : Prop := s.2.1 = 0 ∨ ∃ x : Addr, s.1 = some x ∧ k ≤ x.block ∧ x.block < m
theorem IsIl.inT {lo : Nat} {w : World} {s : SlQ} {d : List Int} (h : IsIl lo w s d) : InT lo w.heap.size s := by
 obtain ⟨a1, -, -, a4, a5⟩ := h
 rcases a4 with a4 | ⟨b, off, e, hlt, -⟩
 ·exact .inl (by rw [← a1, a4]; rfl)
 ·exact .inr ⟨_, e, a5 _ e, hlt⟩
theorem IsSl.inT {lo : Nat} {w : World} {s : SlQ} {d : List Nat} (h : IsSl lo w s d) : InT lo w.heap.size s := by
 obtain ⟨a1, -, -, -, a4, a5⟩ := h
 rcases a4 with a4 | ⟨b, off, e, hlt, -⟩
 ·exact .inl (by rw [← a1, a4]; rfl)
 ·exact .inr ⟨_, e, a5 _ e, hlt⟩
theorem IsOp.kcT {lo k m : Nat} {w w' : World} {p : SlO} {o : OpR} (h : IsOp lo w p o) (h1 : InT k m p.1) (h2 : InT k m p.2) (hK : ∀ g, k ≤ g → g < m → Kc g w w') : IsOp lo w' p o := by
 obtain ⟨⟨a1, a2, a3, a4, a5⟩, ⟨b1, b2, b3, b4, b5, b6⟩⟩ := h
 refine ⟨⟨a1, a2, a3, ?_, a5⟩, ⟨b1, b2, b3, b4, ?_, b6⟩⟩
 ·rcases a4 with a4 | ⟨b, off, e, hlt, hc⟩
  ·exact .inl a4
  ·rcases h1 with h1 | ⟨x, e', e1, e2⟩
   ·exact .inl (List.length_eq_zero_iff.1 (by omega))
   ·rw [e] at e'; cases e'
    have kk := hK b e1 e2
    exact .inr ⟨b, off, e, kk.1, fun i hi => ((kk.2 _).1).trans (hc i hi)⟩
 ·rcases b5 with b5 | ⟨b, off, e, hlt, hc⟩
  ·exact .inl b5
  ·rcases h2 with h2 | ⟨x, e', e1, e2⟩
   ·exact .inl (List.length_eq_zero_iff.1 (by omega))
   ·rw [e] at e'; cases e'
    have kk := hK b e1 e2
    exact .inr ⟨b, off, e, kk.1, fun i hi => ((kk.2 _).1).trans (hc i hi)⟩
def OkK (w : World) (own : Option Nat) (lo : Nat) (p : SlO) (o : OpR) : Prop := ∃ k m, lo ≤ k ∧ m ≤ w.heap.size ∧ IsOp k w p o ∧ InT k m p.1 ∧ InT k m p.2 ∧ ∀ g, own = some g → g < k ∨ m ≤ g
theorem OkK.kept {w w' : World} {own own' : Option Nat} {lo : Nat} {p : SlO} {o : OpR} (h : OkK w own lo p o) (hs : w.heap.size ≤ w'.heap.size) (hK : ∀ g, lo ≤ g → g < w.heap.size → some g ≠ own → Kc g w w') (ho : ∀ g, own' = some g → own = some g ∨ w.heap.size ≤ g) : OkK w' own' lo p o := by
 obtain ⟨k, m, h1, h2, h3, h4, h5, h6⟩ := h
 refine ⟨k, m, h1, Nat.le_trans h2 hs, h3.kcT h4 h5 (fun g a b => hK g (by omega) (by omega) (fun e => by have := h6 g e.symm; omega)), h4, h5, fun g e => ?_⟩
 rcases ho g e with e' | e'
 ·exact h6 g e'
 ·right; omega
theorem OkK.below {w w' : World} {own : Option Nat} {lo : Nat} {p : SlO} {o : OpR} (h : OkK w own lo p o) (hb : Below w.heap.size w w') : OkK w' own lo p o := h.kept hb.size (fun g _ h2 _ => Kc.below hb (Nat.le_refl _) h2) (fun g e => .inl e)
theorem nthO_snoc {os : List OpR} {o : OpR} {i : Nat} (h : i < os.length) : nthO (os ++ [o]) i = nthO os i := by
 rw [nthO_get h, nthO_get (by simp; omega), List.getElem_append_left h]
theorem nthO_last (os : List OpR) (o : OpR) : nthO (os ++ [o]) os.length = o := by
 rw [nthO_get (by simp)]; simp
def RwK (w : World) (B : Nat) (v : Value) (os : List OpR) : Prop := ∃ ps : List SlO, ps.length = os.length ∧ OwnO w B v (List.zipWith opQ os ps) ∧ ∀ i, i < os.length → ∃ p, ps[i]? = some p ∧ OkK w v.ownBlock B p (nthO os i)
theorem RwK.form {w : World} {B : Nat} {v : Value} {os : List OpR} (h : RwK w B v os) : ∃ a cap, v = .slice a os.length cap ∧ os.length ≤ cap ∧ cap ≤ maxLen := by
 obtain ⟨ps, hl, ho, -⟩ := h
 obtain ⟨a, cap, h1, h2, h3⟩ := ho.form
 have e : (List.zipWith opQ os ps).length = os.length := by rw [List.length_zipWith, hl, Nat.min_self]
 rw [e] at h1 h2
 exact ⟨a, cap, h1, h2, h3⟩
theorem RwK.below {w w' : World} {B : Nat} {v : Value} {os : List OpR} (h : RwK w B v os) (hb : Below w.heap.size w w') : RwK w' B v os := by
 obtain ⟨ps, hl, ho, hi⟩ := h
 exact ⟨ps, hl, ho.below hb (Nat.le_refl _), fun i h => by obtain ⟨p, e, hp⟩ := hi i h; exact ⟨p, e, hp.below hb⟩⟩
theorem RwK.kb {w w' : World} {B b : Nat} {v : Value} {os : List OpR} (h : RwK w B v os) (hg : w.grownBy w' (some b)) (hb : b < B) : RwK w' B v os := by
 obtain ⟨ps, hl, ho, hi⟩ := h
 refine ⟨ps, hl, ?_, fun i h => ?_⟩
 ·refine World.ownsRow.kept ho hg ?_
  cases hv : v.ownBlock with
  | none => exact .inl rfl
  | some k => right; intro e; have := (World.ownsRow.lt ho k hv).1; simp at e; omega
 ·obtain ⟨p, e, hp⟩ := hi i h
  exact ⟨p, e, hp.kept hg.size (fun g h1 h2 _ => Kc.grown hg h2 (fun e => by simp at e; omega)) (fun g e => .inl e)⟩
theorem RwK.lt {w : World} {B : Nat} {v : Value} {os : List OpR} (h : RwK w B v os) {g : Nat} (e : v.ownBlock = some g) : B ≤ g ∧ g < w.heap.size := by
 obtain ⟨ps, -, ho, -⟩ := h
 exact World.ownsRow.lt ho g e
theorem RwK.own {w : World} {B : Nat} {v : Value} {os : List OpR} {p : SlO} {o : OpR} (h : RwK w B v os) (hp : OkK w v.ownBlock B p o) : ∃ l : List Oc, l.length = os.length ∧ OwnO w B v l ∧ ∀ v' w', OwnO w' B v' (l ++ [opQ o p]) → w.grownBy w' v.ownBlock → (v'.ownBlock = v.ownBlock ∨ v'.ownBlock = some w.heap.size) → RwK w' B v' (os ++ [o]) := by
 obtain ⟨ps, hl, ho, hi⟩ := h
 refine ⟨_, by rw [List.length_zipWith, hl, Nat.min_self], ho, fun v' w' h1 h2 h3 => ⟨ps ++ [p], by simp [hl], ?_, fun i hlt => ?_⟩⟩
 ·rw [List.zipWith_append hl.symm]
  exact h1
 ·have hO : ∀ g, v'.ownBlock = some g → v.ownBlock = some g ∨ w.heap.size ≤ g := fun g e => by
   rcases h3 with h3 | h3
   ·exact .inl (h3.symm.trans e)
   ·right; rw [h3] at e; cases e; exact Nat.le_refl _
  rw [List.length_append, List.length_singleton] at hlt
  rcases Nat.lt_or_ge i os.length with h' | h'
  ·obtain ⟨p', e, hp'⟩ := hi i h'
   rw [nthO_snoc h']
   exact ⟨p', by rw [List.getElem?_append_left (by omega)]; exact e, hp'.kept h2.size (fun g a b c => Kc.grown h2 b c) hO⟩
  ·obtain rfl : i = os.length := by omega
   rw [nthO_last]
   exact ⟨p, by rw [← hl]; simp, hp.kept h2.size (fun g a b c => Kc.grown h2 b c) hO⟩
theorem RwK.empty {w : World} {B : Nat} (hB : B ≤ w.heap.size) : RwK (w.alloc (.cells #[] 27)) B (.slice (some ⟨w.heap.size, 0, none⟩) 0 0) [] :=
 ⟨[], rfl, OwnO.empty hB, fun i h => absurd h (Nat.not_lt_zero _)⟩
theorem RwK.os {w : World} {B : Nat} {a : Option Addr} {n cap : Nat} {os : List OpR} (h : RwK w B (.slice a n cap) os) : IsOs B w (a, n, cap) os := by
 obtain ⟨a', cap', e, h1, h2⟩ := h.form
 injection e with e1 e2 e3
 subst e1 e2 e3
 refine ⟨rfl, h1, h2, ?_⟩
 obtain ⟨ps, hl, ho, hi⟩ := h
 have hzl : (List.zipWith opQ os ps).length = os.length := by rw [List.length_zipWith, hl, Nat.min_self]
 rcases Nat.eq_zero_or_pos os.length with hz | hp
 ·exact .inl (List.length_eq_zero_iff.1 hz)
 ·have ho' : w.ownsRow B 27 8 (.slice a os.length cap) os.length (oc (List.zipWith opQ os ps)) := by have := ho; unfold OwnO at this; rw [hzl] at this; exact this
  rcases id ho'.2 with ⟨h', h0⟩ | ⟨g, cap', cur, h', hB, hg, _⟩
  ·omega
  ·injection h' with e1 e2 e3
   subst e1
   have hlt := (World.ownsRow.lt ho' g rfl).2
   refine .inr ⟨g, 0, rfl, hB, hlt, fun i hi' => ?_⟩
   obtain ⟨p, hp', k, m, hk, -, hin, -⟩ := hi i hi'
   have hc := ownO_cells ho' i (by rw [hzl]; exact hi')
   rw [nthOc_zip hi' hp'] at hc
   obtain ⟨-, c0, c1, c2, c3, c4, c5, c6, c7⟩ := hc
   simp only [Nat.zero_add]
   exact ⟨p, ⟨c0, c1, c2, c3, c4, c5, c6, c7⟩, hin.low hk⟩
def FtD (o : OpR) : Prop := o.x.size ≤ 100 ∧ o.t.size ≤ 100 ∧ o.u.length ≤ 7 ∧ o.b.length ≤ 600
theorem FtD.ok {o : OpR} (h : OkJ o) : FtD o := ⟨by have := h.x; omega, by have := h.t; omega, by have := h.u; omega, h.b⟩
theorem ftD_snoc {os : List OpR} {o : OpR} (h : ∀ x ∈ os, FtD x) (ho : FtD o) : ∀ x ∈ os ++ [o], FtD x := fun x hx => by
 rcases List.mem_append.1 hx with hx | hx
 ·exact h x hx
 ·rw [List.mem_singleton.1 hx]; exact ho
def OsDr (w : World) (e : Ending) (w' : World) : Prop := ∃ (os : List OpR) (a : Option Addr) (n cap : Nat), e = .returned (.slice a n cap) ∧ IsOs (w.heap.size + 1) w' (a, n, cap) os ∧ n ≤ 5 ∧ (∀ o ∈ os, FtD o) ∧ Below w.heap.size w w'
theorem OsDr.mk {w w' : World} {a : Option Addr} {cap : Nat} {os : List OpR} (h : RwK w' (w.heap.size + 1) (.slice a os.length cap) os) (hn : os.length ≤ 5) (hf : ∀ o ∈ os, FtD o) (hb : Below w.heap.size w w') : OsDr w (.returned (.slice a os.length cap)) w' :=
 ⟨os, a, os.length, cap, rfl, h.os, hn, hf, hb⟩
set_option maxHeartbeats 3200000 in
set_option maxRecDepth 100000 in
theorem drawPackOps_any (a : Option Addr) (n cap : Nat) (l : List Nat) (w : World) (hl : l.length = n) (hr : Rd w a l) (hB0 : IsB l) (hn : n ≤ 1048576) :
  Calls Tryd.prog 19 #[.slice a n cap] w fun e w' => OsDr w e w' := by
 go_enter Tryd.func19, Tryd.ntmps19
 go_wp2_with fail
 refine (l1Source_any a n cap l w hl hr hB0 hn).mono ?_
 rintro e w1 ⟨rfl, hs1, hb1⟩
 have hbw : w.heap.size < w1.heap.size := hs1.2.1
 have hA : Below w1.heap.size w1 (w1.alloc (.cells #[] 27)) := (Below.refl _ _).alloc (Nat.le_refl _) _
 have hG0 : RwK (w1.alloc (.cells #[] 27)) (w.heap.size + 1) (.slice (some ⟨w1.heap.size, 0, none⟩) 0 0) [] := RwK.empty (by omega)
 have hsA := hs1.below (hA.mono hbw)
 have hBA := hb1.trans (hA.mono hb1.size)
 have hzA : (w1.alloc (.cells #[] 27)).heap.size = w1.heap.size + 1 := by simp
 clear hs1 hb1 hA
 go_wp2_with fail
 generalize w1.alloc (.cells #[] 27) = W1 at *
 refine (l1Next_any w.heap.size w.heap.size 0 5 W1 hsA (by omega) (by omega) (by omega)).mono ?_
 rintro e w2 ⟨r, rfl, r0, r1, -, hs2, hg2⟩
 obtain ⟨N, rfl⟩ := Int.eq_ofNat_of_zero_le r0
 have hN5 : N < 5 := by have := r1 (by omega); omega
 have hG2 := hG0.kb hg2 (by omega)
 have hB2 := hBA.trans (gbelow hg2 hsA.2.1)
 have HA : Hid (RwK w2 (w.heap.size + 1) (.slice (some ⟨w1.heap.size, 0, none⟩) 0 0) [] ∧ Src w2 w.heap.size w.heap.size (0 + 1) ∧ Below w.heap.size w w2) := ⟨hG2, hs2, hB2⟩
 clear hG0 hsA hBA hg2 hs2 hG2 hB2 r0 r1
 go_wp2
 go_loopw [4, 5] (fun v k wr => ∃ (i : Nat) (os : List OpR), i ≤ N ∧ k = .int .i64 ((N - i : Nat) : Int) ∧ RwK wr (w.heap.size + 1) v os ∧ os.length = i ∧ (∀ o ∈ os, FtD o) ∧ Src wr w.heap.size w.heap.size (1 + 60 * i) ∧ Below w.heap.size w wr)
  (fun _ k _ => (intOf k).toNat)
 case atStart => exact ⟨0, [], by omega, rfl, HA.out.1, rfl, fun z hz => (by cases hz), HA.out.2.1, HA.out.2.2⟩
 case round =>
  obtain ⟨i, os, hi, rfl, hgr, hol, hF, hsr, hBr⟩ := hrel
  clear HA
  have hzr : w.heap.size < wr.heap.size := hsr.2.1
  obtain ⟨va, ca, rfl, -, -⟩ := id hgr.form
  by_cases hin : i < N
  ·have hj : (0 : Int) < ((N - i : Nat) : Int) := by omega
   have HF : Hid (∀ o ∈ os, FtD o) := hF
   clear hF
   go_wp2_with fail
   refine (l8Draw_any w.heap.size w.heap.size (1 + 60 * i) wr hsr (by omega)).mono ?_
   rintro e w2 ⟨⟨ok, ox, ot, ou, om, of0, od, ob⟩, ⟨⟨pa, pn, pc⟩, qa, qn, qc⟩, rfl, hI, hK, hs2, hk2⟩
   have HF2 : Hid (∀ o ∈ os ++ [⟨ok, ox, ot, ou, om, of0, od, ob⟩], FtD o) := ftD_snoc HF.out (FtD.ok hK)
   have HOB : Hid (∀ g, (Value.slice va os.length ca).ownBlock = some g → w.heap.size + 1 ≤ g ∧ g < wr.heap.size) := fun g e => hgr.lt e
   have hz2 : wr.heap.size ≤ w2.heap.size := hk2.size
   have hgr2 := hgr.kb hk2 (by omega)
   have hp2 : OkK w2 (Value.slice va os.length ca).ownBlock (w.heap.size + 1) ((pa, pn, pc), (qa, qn, qc)) ⟨ok, ox, ot, ou, om, of0, od, ob⟩ := ⟨wr.heap.size + 1, w2.heap.size, by omega, Nat.le_refl _, hI, hI.1.inT, hI.2.inT, fun g e => by have := (HOB.out g e).2; omega⟩
   have hBe2 : Below w.heap.size w w2 := hBr.trans (gbelow hk2 hsr.2.1)
   dsimp only [opX, slW]
   obtain ⟨W3, hW3⟩ : ∃ W3, w2.alloc (.cells #[.int .i64 ok, .string ox, .string ot, .slice pa pn pc, .int .i64 om, .int .i64 of0, .int .i64 od, .slice qa qn qc] 27) = W3 := ⟨_, rfl⟩
   have h23 : Below w2.heap.size w2 W3 := by rw [← hW3]; exact (Below.refl _ _).alloc (Nat.le_refl _) _
   have hQ3 : Qo W3 w2.heap.size (opQ ⟨ok, ox, ot, ou, om, of0, od, ob⟩ ((pa, pn, pc), (qa, qn, qc))) := by rw [← hW3]; exact Qo.new _ _ _ _ _ _ _ _ _ _
   have hs3 : W3.heap.size = w2.heap.size + 1 := by rw [← hW3]; simp
   have hS3 := hs2.below (h23.mono hs2.2.1)
   have hBe3 := hBe2.trans (h23.mono hBe2.size)
   obtain ⟨ql, hql, hown, HW⟩ := (hgr2.below h23).own (hp2.below h23)
   have HWH : Hid (∀ v' w', OwnO w' (w.heap.size + 1) v' (ql ++ [opQ ⟨ok, ox, ot, ou, om, of0, od, ob⟩ ((pa, pn, pc), (qa, qn, qc))]) → W3.grownBy w' (Value.slice va os.length ca).ownBlock → (v'.ownBlock = (Value.slice va os.length ca).ownBlock ∨ v'.ownBlock = some W3.heap.size) → RwK w' (w.heap.size + 1) v' (os ++ [⟨ok, ox, ot, ou, om, of0, od, ob⟩])) := HW
   have HTD : Hid (∀ w', W3.grownBy w' (Value.slice va os.length ca).ownBlock → Src w' w.heap.size w.heap.size (1 + 60 * i + 60) ∧ Below w.heap.size w w') := fun w' h2 => ⟨hS3.below ((Below.refl (w.heap.size + 1) W3).grown h2 (by omega) (fun k e => (HOB.out k e).1)), hBe3.grown h2 (by omega) (fun k e => by have := (HOB.out k e).1; omega)⟩
   clear hgr hsr hBr hgr2 hp2 hI hs2 hk2 hBe2 h23 HW hS3 hBe3
   go_wp2_with (at_builtin; refine wpList_appO rfl _ _ rfl (w.heap.size + 1) _ ql rfl hown w2.heap.size (opQ ⟨ok, ox, ot, ou, om, of0, od, ob⟩ ((pa, pn, pc), (qa, qn, qc))) rfl hQ3 ⟨rfl, rfl, rfl, rfl, rfl, rfl, rfl, rfl⟩ (by omega) (by omega) ?_; intro v' w4 hO4 hg4 hat4; have HS4 : Hid (_) := HTD.out w4 hg4; have hR4 := HWH.out v' w4 hO4 hg4 hat4; obtain ⟨a4, cp4, rfl, -, -⟩ := id hR4.form; rw [List.length_append, List.length_singleton] at hR4)
   clear hK
   go_roundw
   case rel => exact ⟨i + 1, os ++ [⟨ok, ox, ot, ou, om, of0, od, ob⟩], by omega, by go_num, by have h := hR4; rw [hol] at h; exact h, by rw [List.length_append, List.length_singleton]; omega, HF2.out, HS4.out.1.more (by omega), HS4.out.2⟩
   case measure => simp [intOf]; omega
  ·have hii : i = N := by omega
   have hj : ¬ (0 : Int) < ((N - i : Nat) : Int) := by omega
   subst hii
   subst hol
   have HF : Hid (∀ o ∈ os, FtD o) := hF
   clear hF
   go_wp2_with fail
   refine (l1Chance_any w.heap.size w.heap.size _ 8 wr hsr (by omega) (by omega) (by omega)).mono ?_
   rintro e w8 ⟨q, rfl, hs8, hg8⟩
   have hz8 : w.heap.size < w8.heap.size := hs8.2.1
   have hgr8 := hgr.kb hg8 (by omega)
   have hBr8 := hBr.trans (gbelow hg8 hsr.2.1)
   clear hgr hsr hg8 hBr
   have hsr := hs8; have hgr := hgr8; have hBr := hBr8
   clear hs8 hgr8 hBr8
   cases q with
   | true =>
    go_wp2_with fail
    refine (l8Bent_any w.heap.size w.heap.size _ w8 hsr (by omega)).mono ?_
    rintro e w2 ⟨⟨ok, ox, ot, ou, om, of0, od, ob⟩, ⟨⟨pa, pn, pc⟩, qa, qn, qc⟩, rfl, hI, hx, ht, hu, hd, hs2, hk2⟩
    have HF2 : Hid (∀ o ∈ os ++ [⟨ok, ox, ot, ou, om, of0, od, ob⟩], FtD o) := ftD_snoc HF.out ⟨hx, ht, hu, hd⟩
    clear hx ht hu hd
    have HOB : Hid (∀ g, (Value.slice va os.length ca).ownBlock = some g → w.heap.size + 1 ≤ g ∧ g < w8.heap.size) := fun g e => hgr.lt e
    have hz2 : w8.heap.size ≤ w2.heap.size := hk2.size
    have hgr2 := hgr.kb hk2 (by omega)
    have hp2 : OkK w2 (Value.slice va os.length ca).ownBlock (w.heap.size + 1) ((pa, pn, pc), (qa, qn, qc)) ⟨ok, ox, ot, ou, om, of0, od, ob⟩ := ⟨w8.heap.size + 1, w2.heap.size, by omega, Nat.le_refl _, hI, hI.1.inT, hI.2.inT, fun g e => by have := (HOB.out g e).2; omega⟩
    have hBe2 : Below w.heap.size w w2 := hBr.trans (gbelow hk2 hsr.2.1)
    dsimp only [opX, slW]
    obtain ⟨W3, hW3⟩ : ∃ W3, w2.alloc (.cells #[.int .i64 ok, .string ox, .string ot, .slice pa pn pc, .int .i64 om, .int .i64 of0, .int .i64 od, .slice qa qn qc] 27) = W3 := ⟨_, rfl⟩
    have h23 : Below w2.heap.size w2 W3 := by rw [← hW3]; exact (Below.refl _ _).alloc (Nat.le_refl _) _
    have hQ3 : Qo W3 w2.heap.size (opQ ⟨ok, ox, ot, ou, om, of0, od, ob⟩ ((pa, pn, pc), (qa, qn, qc))) := by rw [← hW3]; exact Qo.new _ _ _ _ _ _ _ _ _ _
    have hs3 : W3.heap.size = w2.heap.size + 1 := by rw [← hW3]; simp
    have hS3 := hs2.below (h23.mono hs2.2.1)
    have hBe3 := hBe2.trans (h23.mono hBe2.size)
    obtain ⟨ql, hql, hown, HW⟩ := (hgr2.below h23).own (hp2.below h23)
    have HWH : Hid (∀ v' w', OwnO w' (w.heap.size + 1) v' (ql ++ [opQ ⟨ok, ox, ot, ou, om, of0, od, ob⟩ ((pa, pn, pc), (qa, qn, qc))]) → W3.grownBy w' (Value.slice va os.length ca).ownBlock → (v'.ownBlock = (Value.slice va os.length ca).ownBlock ∨ v'.ownBlock = some W3.heap.size) → RwK w' (w.heap.size + 1) v' (os ++ [⟨ok, ox, ot, ou, om, of0, od, ob⟩])) := HW
    have HTD : Hid (∀ w', W3.grownBy w' (Value.slice va os.length ca).ownBlock → Src w' w.heap.size w.heap.size (1 + 60 * os.length + 1 + 70) ∧ Below w.heap.size w w') := fun w' h2 => ⟨hS3.below ((Below.refl (w.heap.size + 1) W3).grown h2 (by omega) (fun k e => (HOB.out k e).1)), hBe3.grown h2 (by omega) (fun k e => by have := (HOB.out k e).1; omega)⟩
    clear hgr hsr hBr hgr2 hp2 hI hs2 hk2 hBe2 h23 HW hS3 hBe3
    go_wp2_with (at_builtin; refine wpList_appO rfl _ _ rfl (w.heap.size + 1) _ ql rfl hown w2.heap.size (opQ ⟨ok, ox, ot, ou, om, of0, od, ob⟩ ((pa, pn, pc), (qa, qn, qc))) rfl hQ3 ⟨rfl, rfl, rfl, rfl, rfl, rfl, rfl, rfl⟩ (by omega) (by omega) ?_; intro v' w4 hO4 hg4 hat4; have HS4 : Hid (_) := HTD.out w4 hg4; have hR4 := HWH.out v' w4 hO4 hg4 hat4; obtain ⟨a4, cp4, rfl, -, -⟩ := id hR4.form; rw [List.length_append, List.length_singleton] at hR4)
    have HE : Hid (OsDr w (.returned (.slice a4 (os.length + 1) cp4)) w4) := by
     have := OsDr.mk (os := os ++ [⟨ok, ox, ot, ou, om, of0, od, ob⟩]) (by rw [List.length_append, List.length_singleton]; exact hR4) (by rw [List.length_append, List.length_singleton]; omega) HF2.out HS4.out.2
     rw [List.length_append, List.length_singleton] at this
     exact this
    clear hR4
    go_wp2
    go_ret
    exact HE.out
   | false =>
    have HE : Hid (OsDr w (.returned (.slice va os.length ca)) w8) := OsDr.mk hgr (by omega) HF.out hBr
    clear hgr hsr hBr
    go_wp2
    go_ret
    exact HE.out
end Go.Proofs.YtdcgihcjiiemdaaDoor
