/- ReadOp on both sides, as its law takes them; no conditions beyond those that each fact names · ReadJournal: the model's functions; no conditions beyond those that each fact names · ReadJournal: what was told is read where it lies; the law's comparison; no conditions beyond those that each fact names. -/
import Derived.Test.YtdcgihcjiiemdaaDoorOrl
import Derived.Test.YtdcgihcjiiemdaaDoorRmc
import Derived.Test.YtdcgihcjiiemdaaDoorRmd
import Derived.Test.YtdcgihcjiiemdaaDoorJrd
namespace Go.Proofs.YtdcgihcjiiemdaaDoor
open Go.RowKit
theorem HL9_any : Hid (∀ (a : Option Addr) (n cap : Nat) (d : List Nat) (w : World), d.length = n → 2 ≤ n → n ≤ 1048576 → Rd w a d → IsB d → Calls Tryd.prog 28 #[.slice a n cap] w fun e w' => RfEnd (rdM d) w e w') :=
 fun a n cap d w h1 h2 h3 h4 h5 => l9Read_any a n cap d w h1 h2 h3 h4 h5
theorem rpV_ft (l : List Nat) : FtO (rpV l).2.2 ∧ (rpV l).2.2.u.length ≤ 6 ∧ (rpV l).2.2.b.length ≤ 600 := by
 unfold rpV
 split
 ·next h =>
  have hk := okJ h.1
  have h1 := hk.x; have h2 := hk.t; have h3 := hk.u; have h4 := hk.b
  dsimp only
  exact ⟨⟨by omega, by omega, by omega, by omega⟩, h3, h4⟩
 ·exact ⟨⟨by show 0 ≤ _; omega, by show 0 ≤ _; omega, by show 0 ≤ _; omega, by show 0 ≤ _; omega⟩, by show 0 ≤ _; omega, by show 0 ≤ _; omega⟩
end Go.Proofs.YtdcgihcjiiemdaaDoor
namespace Go.Proofs.YtdcgihcjiiemdaaDoor
open Go.RowKit
set_option linter.unusedVariables false
def JlEnd (r : Nat × List OpR) (w : World) (e : Ending) (w' : World) : Prop := ∃ v, e = .returned (.tuple #[v, .int .i64 (r.1 : Int)]) ∧ RwO w' w.heap.size v r.2 ∧ Below w.heap.size w w'
theorem OwnO.empty {w : World} {B : Nat} (hB : B ≤ w.heap.size) : OwnO (w.alloc (.cells #[] 27)) B (.slice (some ⟨w.heap.size, 0, none⟩) 0 0) [] :=
 ⟨rfl, .inr ⟨w.heap.size, 0, #[], rfl, hB, heap_alloc_new w _, Nat.le_refl _, by decide, rfl, rfl⟩⟩
theorem RwO.empty {w : World} {B : Nat} (hB : B ≤ w.heap.size) : RwO (w.alloc (.cells #[] 27)) B (.slice (some ⟨w.heap.size, 0, none⟩) 0 0) [] :=
 ⟨[], rfl, OwnO.empty hB, by simp; omega, Nat.le_refl _⟩
set_option maxHeartbeats 3200000 in
set_option maxRecDepth 100000 in
theorem l9Journal_any (a : Option Addr) (n cap : Nat) (l : List Nat) (w : World) (hl : l.length = n) (hnc : n ≤ cap) (hcm : cap ≤ maxLen) (hn : n ≤ 8000) (hr : Rd w a l) (hB : IsB l) :
  Calls Tryd.prog 38 #[.slice a n cap] w fun e w' => JlEnd (jG l.length l) w e w' := by
 have HL : Hid (l.length = n) := hl
 have HCM : Hid (cap ≤ maxLen) := hcm
 unfold maxLen at hcm
 have HRO : Hid (∀ (wr : World) (u : Nat) (a' : Option Addr) (n' c' : Nat), Below w.heap.size w wr → (a' = Option.map (fun x => x.add u) a ∨ l.drop u = []) → n' = n - u → n' ≤ c' → c' ≤ maxLen → Calls Tryd.prog 8 #[.slice a' n' c'] wr fun e w' => OrEnd (rpV (l.drop u)) wr e w') := fun wr u a' n' c' hb ha hn' h1 h2 => by
  rw [← rpM_eq]
  refine specReadOp_of HL9_any a' n' c' (l.drop u) wr (by rw [List.length_drop, hl, hn']) h1 h2 (by omega) ?_ (isB_drop hB u)
  rcases ha with rfl | ha
  ·exact rd_add (hr.below hb) u
  ·exact .inl ha
 have HR : Hid (∀ u os, jG l.length l = (u, os) → jG l.length l = (u, os)) := fun u os h => h
 have HJ0 := JgS.nil l
 have HCD0 : Hid (∀ u os, JgS l u os → ((rpV (l.drop u)).1 ≠ 0 ∨ u = n) → jG l.length l = (u, os)) := fun u os h hc => h.done (hc.elim id (fun e h0 => by have := rpV_ok h0; rw [List.length_drop, hl, e] at this; omega))
 generalize hg : jG l.length l = r at HR HCD0 ⊢
 clear hr hB hl HR hg
 obtain ⟨W, hW⟩ : ∃ W, w.alloc (.cells #[] 27) = W := ⟨_, rfl⟩
 have hR0 : RwO W w.heap.size (.slice (some ⟨w.heap.size, 0, none⟩) 0 0) [] := by rw [← hW]; exact RwO.empty (Nat.le_refl _)
 have hb0 : Below w.heap.size w W := by rw [← hW]; exact (Below.refl _ _).alloc (Nat.le_refl _) _
 go_enter Tryd.func38, Tryd.ntmps38
 go_wp2
 go_loopw [4, 5, 6] (fun v x _ wr => ∃ (u : Nat) (os : List OpR), x = .int .i64 (u : Int) ∧ JgS l u os ∧ RwO wr w.heap.size v os ∧ Below w.heap.size w wr) (fun _ x _ _ => n - (intOf x).toNat)
 case atStart => exact ⟨0, [], rfl, HJ0, hR0, hb0⟩
 case round =>
  obtain ⟨u, os, rfl, hj, hro, hbr⟩ := hrel
  clear hR0 hb0 hW HJ0
  obtain ⟨va, ca, rfl, -, -⟩ := id hro.form
  have hun : u ≤ n := by have := hj.1; rw [HL.out] at this; exact this
  have hol : os.length ≤ 8000 := by have := hj.2.1; omega
  have HST : Hid ((rpV (l.drop u)).1 = 0 → JgS l (u + (rpV (l.drop u)).2.1) (os ++ [(rpV (l.drop u)).2.2]) ∧ 14 ≤ (rpV (l.drop u)).2.1 ∧ (rpV (l.drop u)).2.1 ≤ n - u) := fun h => ⟨hj.step h, (rpV_ok h).1, by have := (rpV_ok h).2; rw [List.length_drop, HL.out] at this; exact this⟩
  have HDN : Hid (((rpV (l.drop u)).1 ≠ 0 ∨ u = n) → r = (u, os)) := fun h => HCD0.out _ _ hj h
  have HCD := rpV_code (l.drop u)
  have hzw : w.heap.size ≤ wr.heap.size := hbr.size
  by_cases hlt : u < n
  ·have hi : (u : Int) < (n : Int) := by omega
   have hcu : ¬ cap = u := by omega
   have HCU : Hid (cap - u ≤ maxLen) := Nat.le_trans (Nat.sub_le _ _) HCM.out
   have HC := HRO.out wr u (Option.map (fun x => x.add u) a) (n - u) (cap - u) hbr (.inl rfl) rfl (by omega) HCU.out
   clear hj HCD0 HRO
   go_wp2_with fail
   refine HC.mono ?_
   rintro e w1 ⟨p, rfl, ho, ⟨hv1, hv2⟩, hsp, hb1⟩
   have hpn : RwP w1 w.heap.size (.slice va os.length ca) os p (rpV (l.drop u)).2.2 := RwP.new hro hb1 ho hv1 hv2 hsp
   have HOB : Hid (∀ k, (Value.slice va os.length ca).ownBlock = some k → w.heap.size ≤ k ∧ k < wr.heap.size) := fun k e => by obtain ⟨ps, -, h, -⟩ := hro; exact World.ownsRow.lt h k e
   have hro1 := hro.below hb1
   have hB1 : Below w.heap.size w w1 := hbr.trans (hb1.mono hzw)
   have hz1 : wr.heap.size ≤ w1.heap.size := hb1.size
   clear HC hro hbr ho hv1 hv2 hsp hb1
   generalize rpV (l.drop u) = q at *
   obtain ⟨W2, hW2⟩ : ∃ W2, w1.alloc (.cells #[.int .i64 q.1, .int .i64 (q.2.1 : Int), .int .i64 q.2.2.k, .string q.2.2.x, .string q.2.2.t, slW p.1, .int .i64 q.2.2.m, .int .i64 q.2.2.f, .int .i64 q.2.2.d, slW p.2] 29) = W2 := ⟨_, rfl⟩
   have b2 : Below w1.heap.size w1 W2 := by rw [← hW2]; exact (Below.refl _ _).alloc (Nat.le_refl _) _
   have hs2 : W2.heap.size = w1.heap.size + 1 := by rw [← hW2]; simp
   have hB2 := hB1.trans (b2.mono (by omega))
   have hro2 := hro1.below b2
   have hpn2 := hpn.below b2
   obtain ⟨⟨k0, k1, k2, k3, k4, k5, k6, k7, k8, k9⟩, -⟩ := res_block10 hW2 (Below.refl _ W2)
   clear hro1 hpn hB1 b2
   by_cases hq : q.1 = 0
   ·obtain ⟨hjs, h14, hqu⟩ := HST.out hq
    have HJS : Hid (JgS l (u + q.2.1) (os ++ [q.2.2])) := hjs
    obtain ⟨c, m, o⟩ := q
    dsimp only at *
    subst hq
    obtain ⟨W3, hW3⟩ : ∃ W3, W2.alloc (.cells #[.int .i64 o.k, .string o.x, .string o.t, slW p.1, .int .i64 o.m, .int .i64 o.f, .int .i64 o.d, slW p.2] 27) = W3 := ⟨_, rfl⟩
    have b3 : Below W2.heap.size W2 W3 := by rw [← hW3]; exact (Below.refl _ _).alloc (Nat.le_refl _) _
    have hs3 : W3.heap.size = W2.heap.size + 1 := by rw [← hW3]; simp
    have hQ3 : Qo W3 (w1.heap.size + 1) (opQ o p) := by rw [← hs2, ← hW3]; exact Qo.new _ _ _ _ _ _ _ _ _ _
    have hB3 := hB2.trans (b3.mono (by omega))
    obtain ⟨ql, hql, hown, HW⟩ := (hpn2.below b3).own
    have e1 : W3.cell? ⟨w1.heap.size, 1, none⟩ = some (.int .i64 (m : Int)) := (b3.cell (p := ⟨w1.heap.size, 1, none⟩) (by show w1.heap.size < W2.heap.size; omega)).trans k1
    have HWH : Hid (∀ v' w', OwnO w' w.heap.size v' (ql ++ [opQ o p]) → W3.grownBy w' (Value.slice va os.length ca).ownBlock → (v'.ownBlock = (Value.slice va os.length ca).ownBlock ∨ v'.ownBlock = some W3.heap.size) → RwO w' w.heap.size v' (os ++ [o])) := HW
    have HTD : Hid (∀ v' w', OwnO w' w.heap.size v' (ql ++ [opQ o p]) → W3.grownBy w' (Value.slice va os.length ca).ownBlock → Below w.heap.size w w' ∧ w'.cell? ⟨w1.heap.size, 1, none⟩ = some (.int .i64 (m : Int))) := fun v' w' h1 h2 => ⟨hB3.grown h2 (by omega) (fun k e => by have := (HOB.out _ e).1; omega), (World.cell?_of_block (h2.block w1.heap.size (by omega) (fun e => by have := (HOB.out _ e.symm).2; omega))).trans e1⟩
    clear HST HDN HCD hro2 hpn2 hjs HW hB2
    go_wp2_with (at_builtin; refine wpList_appO rfl _ _ rfl w.heap.size _ ql rfl hown (w1.heap.size + 1) (opQ o p) rfl hQ3 ⟨rfl, rfl, rfl, rfl, rfl, rfl, rfl, rfl⟩ (by omega) (by omega) ?_; intro v' w4 hO4 hg4 hat4; obtain ⟨hB4, e4⟩ := HTD.out v' w4 hO4 hg4; have hR4 := HWH.out v' w4 hO4 hg4 hat4; obtain ⟨a4, cp4, rfl, -, -⟩ := id hR4.form; rw [List.length_append, List.length_singleton] at hR4)
    go_roundw
    case rel => exact ⟨u + m, os ++ [o], by go_num, HJS.out, hR4, hB4⟩
    case measure => simp [intOf]; omega
   ·have HJ : Hid (r = (u, os)) := HDN.out (.inl hq)
    have hqi : q.1 = 5 := by
     rcases HCD with h | h
     ·rw [h]
     ·exact absurd h hq
    rw [hqi] at k0
    have HEH : Hid (JlEnd (u, os) w (.returned (.tuple #[.slice va os.length ca, .int .i64 (u : Int)])) W2) := ⟨_, rfl, hro2, hB2⟩
    clear HST HDN HCD hro2 hpn2 hq hqi
    go_wp2
    refine bodyPost_ret (v := .tuple #[.slice va os.length ca, .int .i64 (u : Int)]) (by simp [results, Tryd.results38, go_sem]) rfl ?_
    rw [HJ.out]
    exact HEH.out
  ·have hi : ¬ (u : Int) < (n : Int) := by omega
   have HJ : Hid (r = (u, os)) := HDN.out (.inr (by omega))
   have HEH : Hid (JlEnd (u, os) w (.returned (.tuple #[.slice va os.length ca, .int .i64 (u : Int)])) wr) := ⟨_, rfl, hro, hbr⟩
   clear HST HDN HCD hro hj HRO HCD0
   go_wp2
   refine bodyPost_ret (v := .tuple #[.slice va os.length ca, .int .i64 (u : Int)]) (by simp [results, Tryd.results38, go_sem]) rfl ?_
   rw [HJ.out]
   exact HEH.out
set_option maxHeartbeats 3200000 in
set_option maxRecDepth 100000 in
theorem specReadJournal_any (a : Option Addr) (n cap : Nat) (l : List Nat) (w : World) (hl : l.length = n) (hnc : n ≤ cap) (hcm : cap ≤ maxLen) (hr : Rd w a l) (hB : IsB l) :
  Calls Tryd.prog 17 #[.slice a n cap] w fun e w' => JrEnd (jV l) w e w' := by
 have HV : Hid (jV l = if 8000 < l.length then (2, 0, []) else (0, (jG l.length l).1, (jG l.length l).2)) := rfl
 obtain ⟨W, hW⟩ : ∃ W, w.alloc (.cells #[.int .i64 0, .int .i64 0, .slice none 0 0] 40) = W := ⟨_, rfl⟩
 have hsW : W.heap.size = w.heap.size + 1 := by rw [← hW]; simp
 have hb0 : Below w.heap.size w W := by rw [← hW]; exact (Below.refl _ _).alloc (Nat.le_refl _) _
 have HRB : Hid (∀ wr, Below (w.heap.size + 1) W wr → _) := fun wr hb => res_block3 hW hb
 have HBW : Hid (∀ wr, Below (w.heap.size + 1) W wr → Below w.heap.size w wr) := fun wr hb => hb0.trans (hb.mono (by omega))
 have hcm' : cap ≤ 9223372036854775807 := by unfold maxLen at hcm; omega
 by_cases h8 : 8000 < n
 ·have h8i : (n : Int) > 8000 := by omega
  have HR : Hid (jV l = (2, 0, [])) := HV.out.trans (if_pos (by rw [hl]; exact h8))
  obtain ⟨a0, a1, a2, y0, y1, y2⟩ := HRB.out W (Below.refl _ _)
  obtain ⟨x0, x1, x2⟩ := res_cells3 a0 a1 a2 (.int .i64 2) (.int .i64 0) (.slice none 0 0)
  have HEH : Hid (_) := jr_fin (HBW.out W (Below.refl _ _)) (RwO.nil (B := w.heap.size + 1) (by omega)) 2 0 (.int .i64 2) (.int .i64 0) (.slice none 0 0)
  generalize jV l = r at *
  clear HV HRB hr hB hl
  go_enter Tryd.func17, Tryd.ntmps17
  go_wp2
  refine bodyPost_ret (v := .agg #[.int .i64 2, .int .i64 0, .slice none 0 0]) (by simp [results, Tryd.results17, go_sem, x0, x1, x2]) rfl ?_
  rw [HR.out]
  exact HEH.out
 ·have h8i : ¬ (n : Int) > 8000 := by omega
  have HC := l9Journal_any a n cap l W hl hnc hcm (by omega) (hr.below hb0) hB
  have HR : Hid (jV l = (0, (jG l.length l).1, (jG l.length l).2)) := HV.out.trans (if_neg (by rw [hl]; exact h8))
  have HU : Hid (l.length = n) := hl
  generalize jG l.length l = g at *
  obtain ⟨u, os⟩ := g
  generalize jV l = r at *
  clear HV hr hB hl
  dsimp only at HR
  go_enter Tryd.func17, Tryd.ntmps17
  go_wp2_with fail
  refine HC.mono ?_
  rintro e w1 ⟨v, rfl, hro, hb1⟩
  obtain ⟨va, ca, rfl, -, -⟩ := id hro.form
  dsimp only at hro ⊢
  rw [hsW] at hro hb1
  obtain ⟨a0, a1, a2, y0, y1, y2⟩ := HRB.out w1 hb1
  obtain ⟨x0, x1, x2⟩ := res_cells3 a0 a1 a2 (.int .i64 0) (.int .i64 (u : Int)) (.slice va os.length ca)
  have HEH : Hid (_) := jr_fin (HBW.out w1 hb1) hro 0 u (.int .i64 0) (.int .i64 (u : Int)) (.slice va os.length ca)
  clear HRB hro HC
  go_wp2
  refine bodyPost_ret (v := .agg #[.int .i64 0, .int .i64 (u : Int), .slice va os.length ca]) (by simp [results, Tryd.results17, go_sem, x0, x1, x2]) rfl ?_
  rw [HR.out]
  exact HEH.out
end Go.Proofs.YtdcgihcjiiemdaaDoor
namespace Go.Proofs.YtdcgihcjiiemdaaDoor
open Go.RowKit
set_option linter.unusedVariables false
theorem OpsIn.at_ {w : World} {own : Option Nat} : ∀ {ps : List SlO} {os : List OpR} {lo hi : Nat}, OpsIn w own lo hi ps os → ∀ i, i < os.length → ∃ p k m, ps[i]? = some p ∧ lo ≤ k ∧ m ≤ hi ∧ OpIn w own k m p (nthO os i)
 | [], [], _, _, _, i, hi => by simp at hi
 | p :: ps, o :: os, _, _, ⟨k, m, h0, h1, h2⟩, 0, _ => ⟨p, k, m, rfl, h0, h2.le.1, h1⟩
 | p :: ps, o :: os, _, _, ⟨k, m, h0, h1, h2⟩, i + 1, hi => by
  obtain ⟨p', k', m', e, g0, g1, g2⟩ := OpsIn.at_ h2 i (by simpa using hi)
  exact ⟨p', k', m', by simpa using e, Nat.le_trans h0 (Nat.le_trans h1.le g0), g1, g2⟩
 | [], _ :: _, _, _, h, _, _ => h.elim
 | _ :: _, [], _, _, h, _, _ => h.elim
theorem nthOc_zip {os : List OpR} {ps : List SlO} {i : Nat} {p : SlO} (hi : i < os.length) (hp : ps[i]? = some p) : nthOc (List.zipWith opQ os ps) i = opQ (nthO os i) p := by
 unfold nthOc
 rw [List.getD_eq_getElem?_getD, List.getElem?_zipWith, hp, List.getElem?_eq_getElem hi, nthO_get hi]
 rfl
theorem RwO.os {w : World} {B : Nat} {a : Option Addr} {n cap : Nat} {os : List OpR} (h : RwO w B (.slice a n cap) os) : IsOs B w (a, n, cap) os := by
 obtain ⟨a', cap', e, h1, h2⟩ := h.form
 injection e with e1 e2 e3
 subst e1 e2 e3
 refine ⟨rfl, h1, h2, ?_⟩
 obtain ⟨ps, hl, ho, hi⟩ := h
 have hzl : (List.zipWith opQ os ps).length = os.length := by rw [List.length_zipWith, hl, Nat.min_self]
 rcases Nat.eq_zero_or_pos os.length with hz | hp
 ·exact .inl (List.length_eq_zero_iff.1 hz)
 ·have ho' : w.ownsRow B 27 8 (.slice a os.length cap) os.length (oc (List.zipWith opQ os ps)) := by have := ho; unfold OwnO at this; rw [hzl] at this; exact this
  rcases id ho'.2 with ⟨h', h0⟩ | ⟨g, cap', cur, h', hB, hg, _⟩
  ·omega
  ·injection h' with e1 e2 e3
   subst e1
   have hlt := (World.ownsRow.lt ho' g rfl).2
   refine .inr ⟨g, 0, rfl, hB, hlt, fun i hi' => ?_⟩
   obtain ⟨p, k, m, hp', hk, -, hin⟩ := hi.at_ i hi'
   have hc := ownO_cells ho' i (by rw [hzl]; exact hi')
   rw [nthOc_zip hi' hp'] at hc
   obtain ⟨-, c0, c1, c2, c3, c4, c5, c6, c7⟩ := hc
   simp only [Nat.zero_add]
   exact ⟨p, ⟨c0, c1, c2, c3, c4, c5, c6, c7⟩, hin.op.low hk⟩
theorem jG_ft : ∀ (k : Nat) (d : List Nat), ∀ o ∈ (jG k d).2, FtO o ∧ o.u.length ≤ 6 ∧ o.b.length ≤ 600
 | 0, d, o, h => by simp [jG] at h
 | k + 1, d, o, h => by
  unfold jG at h
  split at h
  ·rcases List.mem_cons.1 h with rfl | h
   ·exact rpV_ft d
   ·exact jG_ft k _ o h
  ·simp at h
theorem jG_len : ∀ (k : Nat) (d : List Nat), (jG k d).2.length ≤ k
 | 0, d => by simp [jG]
 | k + 1, d => by
  unfold jG
  split
  ·have := jG_len k (d.drop (rpV d).2.1)
   simp only [List.length_cons]; omega
  ·simp
theorem jV_len (d : List Nat) : (jV d).2.2.length ≤ 8000 := by
 unfold jV
 split
 ·simp
 ·have := jG_len d.length d
  show (jG d.length d).2.length ≤ 8000
  omega
theorem jV_ft (d : List Nat) : ∀ i, i < (jV d).2.2.length → FtO (nthO (jV d).2.2 i) ∧ (nthO (jV d).2.2 i).u.length ≤ 6 ∧ (nthO (jV d).2.2 i).b.length ≤ 600 := fun i hi => by
 rw [nthO_get hi]
 have hm := List.getElem_mem hi
 generalize (jV d).2.2[i] = o at *
 unfold jV at hm
 split at hm
 ·simp at hm
 ·exact jG_ft _ _ o hm
end Go.Proofs.YtdcgihcjiiemdaaDoor
