/- The part that is asked and the bytes that it tells, the model's: l6Part, l6Bytes, PartBytes · The bytes that a part tells, the model's: l6Bytes. -/
import Derived.Test.YtkjnhcnbbojajaaGreatDoorPbyToDecQ4
import Derived.Test.YtkjnhcnbbojajaaGreatDoorAdnToPsm
import Derived.BigQuiet
namespace Go.Proofs.YtkjnhcnbbojajaaGreatDoor
open Go.RowKit

/-- No part. -/
def ptZ : PtP := ((0, 0, 0), (0, 0), (0, 0))
/-- The part that is asked. -/
def ppV (d : List Nat) (k : Int) : PtP := if (pwV d k).1 = 0 then nthP (pwV d k).2 k.toNat else ptZ
theorem psV_ok {d : List Nat} (h : (psV d).1 = 0) : d.length ≤ 400 ∧ OkP d (psV d).2 := by
  unfold psV at h ⊢
  split at h
  · cases h
  · rename_i h4
    rw [if_neg h4]
    exact ⟨by omega, parts_ok d (by omega)⟩
/-- Where the part that is asked lies. -/
theorem ppV_in {d : List Nat} {k : Int} (h : (pwV d k).1 = 0) : d.length ≤ 400 ∧ ∃ f t : Nat, (ppV d k).2.1 = ((f : Int), (t : Int)) ∧ f ≤ t ∧ t ≤ d.length := by
  obtain ⟨e, n, rfl, hn, h0⟩ := pwV_in h
  obtain ⟨h1, h2⟩ := psV_ok h0
  refine ⟨h1, ?_⟩
  unfold ppV
  rw [if_pos h, e, Int.toNat_natCast]
  exact (h2 n hn).1

set_option maxHeartbeats 1600000 in
set_option maxRecDepth 100000 in
theorem l6Part_any (b m : Nat) (d : List Nat) (k : Int) (w : World) (hr : Rd w (some ⟨b, 0, none⟩) d) (hb : b < w.heap.size) (hB : IsB d) (hl : d.length = m) :
    Calls Tryz.prog 98 #[.slice (some ⟨b, 0, none⟩) m m, .int .i64 k] w fun e w' => e = .returned (.tuple #[ptA (ppV d k), .int .i64 (pwV d k).1]) ∧ Below w.heap.size w w' := by
  have hb0 : Below w.heap.size w (w.alloc (.cells #[.int .i64 0, .int .i64 0, .int .i64 0, .int .i64 0, .int .i64 0, .int .i64 0, .int .i64 0] 30)) := (Below.refl _ _).alloc (Nat.le_refl _) _
  by_cases h4 : 400 < m
  · have h4' : (400 : Int) < (m : Int) := by omega
    have HM : Hid ((pwV d k).1 = 2 ∧ ppV d k = ptZ) := by
      have e : psV d = (2, []) := if_pos (by omega)
      have e2 : pwV d k = (2, []) := by unfold pwV; rw [e, if_neg (fun h => by cases h.1)]
      refine ⟨by rw [e2], ?_⟩
      unfold ppV
      rw [e2, if_neg (by decide)]
    go_enter Tryz.func98, Tryz.ntmps98
    go_wp2
    refine bodyPost_ret (v := .tuple #[ptA ptZ, .int .i64 2]) (by simp [results, Tryz.results98, go_sem, ptA, ptZ]) rfl ?_
    rw [HM.out.1, HM.out.2]
    exact ⟨rfl, by go_grown⟩
  · have h4' : ¬ (400 : Int) < (m : Int) := by omega
    have HA := l5Parse_any b m d _ (hr.below hb0) (Nat.lt_of_lt_of_le hb hb0.size) hB hl (by omega)
    have hps : psV d = (0, adV d 2 0 d.length (-1) 0 []) := if_neg (by omega)
    have h8 := parts_le d
    have HV : Hid (∀ c p, (if (k < 0 ∨ ((adV d 2 0 d.length (-1) 0 []).length : Int) ≤ k) then c = 3 ∧ p = ptZ else c = 0 ∧ p = nthP (adV d 2 0 d.length (-1) 0 []) k.toNat) → (pwV d k).1 = c ∧ ppV d k = p) := fun c p h => by
      unfold ppV pwV
      rw [hps]
      split at h
      · rename_i hh
        rw [if_pos ⟨rfl, hh⟩]
        obtain ⟨rfl, rfl⟩ := h
        exact ⟨rfl, if_neg (by decide)⟩
      · rename_i hh
        rw [if_neg (fun h => hh h.2)]
        obtain ⟨rfl, rfl⟩ := h
        exact ⟨rfl, if_pos rfl⟩
    generalize adV d 2 0 d.length (-1) 0 [] = l at *
    generalize pwV d k = r at *
    generalize ppV d k = q at *
    obtain ⟨N, hN⟩ : ∃ N, l.length = N := ⟨_, rfl⟩
    go_enter Tryz.func98, Tryz.ntmps98
    go_wp2_with fail
    refine HA.mono ?_
    rintro e w1 ⟨v, rfl, ho, hb1⟩
    obtain ⟨a, cp, hv, -, -⟩ := ho.form
    rw [hN] at hv
    subst hv
    have hbl : Below (w.heap.size + 1) (w.alloc (.cells #[.int .i64 0, .int .i64 0, .int .i64 0, .int .i64 0, .int .i64 0, .int .i64 0, .int .i64 0] 30)) w1 := hb1.mono (by simp)
    have hbw := hb0.trans (hbl.mono (by omega))
    have hrd := ho.rd.2
    obtain ⟨⟨hc0, hc1, hc2, hc3, hc4, hc5, hc6⟩, ⟨hf0, hf1, hf2, hf3, hf4, hf5, hf6⟩⟩ := res_block7 rfl hbl
    clear HA hb1 ho
    go_wp2_with fail
    refine (l1In_any k 0 _ _).mono ?_
    rintro e w2 ⟨rfl, rfl⟩
    by_cases hk : k < 0 ∨ (N : Int) ≤ k
    · have hd : decide (0 ≤ k ∧ k ≤ (N : Int) - 1) = false := by simp; omega
      obtain ⟨h1, h2⟩ := HV.out 3 ptZ (by rw [hN, if_pos hk]; exact ⟨rfl, rfl⟩)
      obtain ⟨hk0, hk1, hk2, hk3, hk4, hk5, hk6⟩ := res_cells7 ⟨hc0, hc1, hc2, hc3, hc4, hc5, hc6⟩ (.int .i64 0) (.int .i64 0) (.int .i64 0) (.int .i64 0) (.int .i64 0) (.int .i64 0) (.int .i64 0)
      have HQ : Hid (r.1 = 3 ∧ q = ptZ) := ⟨h1, h2⟩
      rw [hd]
      clear HV h1 h2 hk hd
      go_wp2
      refine bodyPost_ret (v := .tuple #[ptA ptZ, .int .i64 3]) (by simp [results, Tryz.results98, go_sem, ptA, ptZ, hk0, hk1, hk2, hk3, hk4, hk5, hk6]) rfl ?_
      rw [HQ.out.1, HQ.out.2]
      exact ⟨rfl, below_sets7 hbw _ _ _ _ _ _ _⟩
    · obtain ⟨n, hkn⟩ : ∃ n : Nat, k = (n : Int) := ⟨k.toNat, by omega⟩
      subst hkn
      have hnl : n < N := by omega
      have hd : decide (0 ≤ (n : Int) ∧ (n : Int) ≤ (N : Int) - 1) = true := by simp; omega
      obtain ⟨h1, h2⟩ := HV.out 0 (nthP l n) (by rw [hN, if_neg hk]; exact ⟨rfl, by rw [Int.toNat_natCast]⟩)
      have HQ : Hid (r.1 = 0 ∧ q = nthP l n) := ⟨h1, h2⟩
      obtain ⟨g, rfl, hglt, hcell⟩ := hrd.at_ (by omega)
      obtain ⟨x0, x1, x2, x3, x4, x5, x6⟩ := hcell n (by omega)
      have hnN : (n : Int) < (N : Int) := by omega
      rw [hd]
      clear HV h1 h2 hk hd hcell
      generalize nthP l n = pt at *
      obtain ⟨⟨p0, p1, p2⟩, ⟨p3, p4⟩, p5, p6⟩ := pt
      dsimp only at x0 x1 x2 x3 x4 x5 x6
      obtain ⟨hk0, hk1, hk2, hk3, hk4, hk5, hk6⟩ := res_cells7 ⟨hc0, hc1, hc2, hc3, hc4, hc5, hc6⟩ (.int .i64 p0) (.int .i64 p1) (.int .i64 p2) (.int .i64 p3) (.int .i64 p4) (.int .i64 p5) (.int .i64 p6)
      go_wp2
      refine bodyPost_ret (v := .tuple #[.agg #[.int .i64 p0, .int .i64 p1, .int .i64 p2, .int .i64 p3, .int .i64 p4, .int .i64 p5, .int .i64 p6], .int .i64 0]) (by simp [results, Tryz.results98, go_sem, hk0, hk1, hk2, hk3, hk4, hk5, hk6]) rfl ?_
      rw [HQ.out.1, HQ.out.2]
      exact ⟨rfl, below_sets7 hbw _ _ _ _ _ _ _⟩
end Go.Proofs.YtkjnhcnbbojajaaGreatDoor

namespace Go.Proofs.YtkjnhcnbbojajaaGreatDoor
open Go.RowKit

/-- A part's first five numbers stand at a place. -/
def PtC (w : World) (P o : Nat) (p : PtP) : Prop := P < w.heap.size ∧ w.cell? ⟨P, o, none⟩ = some (.int .i64 p.1.1) ∧ w.cell? ⟨P, o + 1, none⟩ = some (.int .i64 p.1.2.1) ∧ w.cell? ⟨P, o + 2, none⟩ = some (.int .i64 p.1.2.2) ∧ w.cell? ⟨P, o + 3, none⟩ = some (.int .i64 p.2.1.1) ∧ w.cell? ⟨P, o + 4, none⟩ = some (.int .i64 p.2.1.2)
theorem PtC.below {w w' : World} {P o : Nat} {p : PtP} (h : PtC w P o p) (hb : Below w.heap.size w w') : PtC w' P o p :=
  ⟨Nat.lt_of_lt_of_le h.1 hb.size, (hb.cell (p := ⟨P, o, none⟩) h.1).trans h.2.1, (hb.cell (p := ⟨P, o + 1, none⟩) h.1).trans h.2.2.1, (hb.cell (p := ⟨P, o + 2, none⟩) h.1).trans h.2.2.2.1, (hb.cell (p := ⟨P, o + 3, none⟩) h.1).trans h.2.2.2.2.1, (hb.cell (p := ⟨P, o + 4, none⟩) h.1).trans h.2.2.2.2.2⟩
theorem PtC.of {w : World} {P : Nat} {p : PtP} (h : PtAt w P p.1.1 p.1.2.1 p.1.2.2 p.2.1.1 p.2.1.2 p.2.2.1 p.2.2.2) : PtC w P 0 p := by
  obtain ⟨x0, x1, x2, x3, x4, x5, x6⟩ := h.cells
  exact ⟨h.lt, x0, x1, x2, x3, x4⟩

set_option maxHeartbeats 3200000 in
set_option maxRecDepth 100000 in
theorem l6Bytes_any (b m P o0 : Nat) (d : List Nat) (p : PtP) (f t : Nat) (w : World) (hr : Rd w (some ⟨b, 0, none⟩) d) (hB : IsB d) (hl : d.length = m) (hm : m ≤ 400) (hp : p.2.1 = ((f : Int), (t : Int))) (hft : f ≤ t) (htm : t ≤ m) (hP : PtC w P o0 p) :
    Calls Tryz.prog 99 #[.slice (some ⟨b, 0, none⟩) m m, .pointer (some ⟨P, o0, none⟩)] w fun e w' => ∃ v, e = .returned (.tuple #[v, .int .i64 (byV (cutN d f t) p.1.2.2).1]) ∧ Own w' w.heap.size v (byV (cutN d f t) p.1.2.2).2 ∧ Below w.heap.size w w' := by
  obtain ⟨⟨p0, p1, p2⟩, ⟨p3, p4⟩, p5, p6⟩ := p
  dsimp only at hp ⊢
  obtain ⟨rfl, rfl⟩ : p3 = (f : Int) ∧ p4 = (t : Int) := by simpa using hp
  have hBc : IsB (cutN d f t) := isB_drop (isB_take hB _) _
  have hcl : (cutN d f t).length = t - f := by unfold cutN; rw [List.length_drop, List.length_take]; omega
  have HR1 : Hid (∀ W, Below w.heap.size w W → Rd W (some ⟨b, f, none⟩) (cutN d f t)) := fun W hW => by
    have h := (rd_takeH (hr.below hW) t).drop f
    rw [Nat.zero_add] at h; exact h
  have HR0 : Hid (m = f → ∀ W, Below w.heap.size w W → Rd W (some ⟨b, 0, none⟩) (cutN d f t)) := fun hmf W hW => by
    rw [List.length_eq_zero_iff.1 (show (cutN d f t).length = 0 by omega)]; exact .inl rfl
  have hi1 : (f : Int) ≤ (t : Int) := by omega
  have hi2 : (t : Int) ≤ (m : Int) := by omega
  obtain ⟨hPl, x0, x1, x2, x3, x4⟩ := hP
  dsimp only at x0 x1 x2 x3 x4
  clear hp
  have HV2 : Hid (p2 = 2 → byV (cutN d f t) p2 = decB (repL (cutN d f t))) := fun h => if_pos h
  have HV3 : Hid (p2 = 3 → byV (cutN d f t) p2 = decQ (cutN d f t)) := fun h => by rw [h]; rfl
  have HV1 : Hid (p2 ≠ 2 → p2 ≠ 3 → byV (cutN d f t) p2 = (0, cutN d f t)) := fun h h' => (if_neg h).trans (if_neg h')
  generalize byV (cutN d f t) p2 = r at *
  go_enter Tryz.func99, Tryz.ntmps99
  go_wp2_with fail
  go_quiet (fail)
  obtain ⟨o, hoe, HRO⟩ : ∃ o : Nat, (if m = f then (some ⟨b, 0, none⟩ : Option Addr) else some ⟨b, f, none⟩) = some ⟨b, o, none⟩ ∧ Hid (∀ W, Below w.heap.size w W → Rd W (some ⟨b, o, none⟩) (cutN d f t)) := by
    by_cases h : m = f
    · exact ⟨0, if_pos h, HR0.out h⟩
    · exact ⟨f, if_neg h, HR1.out⟩
  rw [hoe]
  have hbq : Below w.heap.size w (w.drewN nq) := ⟨rfl, rfl, rfl, Nat.le_refl _, fun _ _ => rfl⟩
  generalize w.drewN nq = wq at *
  have y2 : wq.cell? ⟨P, o0 + 2, none⟩ = some (.int .i64 p2) := (hbq.cell (p := ⟨P, o0 + 2, none⟩) hPl).trans x2
  have hPq : P < wq.heap.size := Nat.lt_of_lt_of_le hPl hbq.size
  clear x0 x1 x2 x3 x4 hoe HR0 HR1
  generalize hcq : m - f = cq at *
  clear hcq
  go_wp2_with fail
  refine (l1Copy_any b o (t - f) _ (cutN d f t) _ hcl (HRO.out _ hbq) (by omega)).mono ?_
  rintro e w1 ⟨v1, rfl, ho1, hb1⟩
  obtain ⟨a1, c1, hv1, -, -⟩ := ho1.form
  rw [hcl] at hv1
  subst hv1
  have hbw1 := hbq.trans (hb1.mono hbq.size)
  have z2 : w1.cell? ⟨P, o0 + 2, none⟩ = some (.int .i64 p2) := (hb1.cell (p := ⟨P, o0 + 2, none⟩) hPq).trans y2
  have hPw : P < w1.heap.size := Nat.lt_of_lt_of_le hPq hb1.size
  have hbA : Below w1.heap.size w1 (w1.alloc (.cells #[.int .i64 0, .slice a1 (t - f) c1] 46)) := (Below.refl _ _).alloc (Nat.le_refl _) _
  have hbwA := hbw1.trans (hbA.mono hbw1.size)
  have hRD := HRO.out _ hbwA
  by_cases h2 : p2 = 2
  · subst h2
    have hV := HV2.out rfl
    have HD := fun w => specDecodeBase_any (repL (cutN d f t)) _ w rfl (repL_isB hBc)
    have HJ := l6Joined_any (some ⟨b, o, none⟩) (t - f) cq (cutN d f t) _ hcl hRD hBc (by omega)
    rw [← hV] at HD
    generalize str (repL (cutN d f t)) = sj at *
    clear hV HV1 HV2 HV3
    go_wp2_with fail
    refine HJ.mono ?_
    rintro e w2 ⟨rfl, hb2⟩
    go_wp2_with fail
    refine (HD _).mono ?_
    rintro e w3 ⟨v3, rfl, ho3, hb3⟩
    have hbl : Below (w1.heap.size + 1) (w1.alloc (.cells #[.int .i64 0, .slice a1 (t - f) c1] 46)) w3 := (hb2.trans (hb3.mono hb2.size)).mono (by simp)
    have hbw3 := hbwA.trans (hbl.mono (by have := hbw1.size; omega))
    have hz2 := hb2.size
    rw [World.size_alloc] at hz2
    have ho4 : Own w3 (w1.heap.size + 1) v3 r.2 := ho3.lower hz2
    obtain ⟨a3, c3, hv3, -, -⟩ := ho4.form
    subst hv3
    obtain ⟨q0, q1, f0, f1⟩ := res_block rfl hbl
    obtain ⟨k0, k1⟩ := res_both q0 q1 (.int .i64 r.1) (.slice a3 r.2.length c3)
    have HE : Hid (∀ n, Own (((w3.setCell ⟨w1.heap.size, 0, none⟩ (.int .i64 r.1)).setCell ⟨w1.heap.size, 1, none⟩ (.slice a3 r.2.length c3)).drewN n) w.heap.size (.slice a3 r.2.length c3) r.2 ∧ Below w.heap.size w (((w3.setCell ⟨w1.heap.size, 0, none⟩ (.int .i64 r.1)).setCell ⟨w1.heap.size, 1, none⟩ (.slice a3 r.2.length c3)).drewN n)) := fun n =>
      ⟨((ho4.kept _ (by simp) _).kept _ (by simp) _).lower (by have := hbw1.size; omega), ((hbw3.setCell (p := ⟨w1.heap.size, 0, none⟩) hbw1.size _).setCell (p := ⟨w1.heap.size, 1, none⟩) hbw1.size _).trans ⟨rfl, rfl, rfl, Nat.le_refl _, fun _ _ => rfl⟩⟩
    clear HJ HD ho3 hb3 ho4 ho1 hbl
    go_wp2_with fail
    go_quiet (fail)
    go_wp2
    go_ret2
    exact ⟨_, rfl, HE.out _⟩
  · have h2' : (p2 == 2) = false := by simpa using h2
    by_cases h3 : p2 = 3
    · subst h3
      have hV := HV3.out rfl
      have HD := fun w => specDecodeQuoted_any (cutN d f t) _ w rfl hBc
      have hst := fun c => run_str (cap := c) hcl hRD
      rw [← hV] at HD
      generalize str (cutN d f t) = sj at *
      clear hV HV1 HV2 HV3
      go_wp2_with fail
      refine (HD _).mono ?_
      rintro e w3 ⟨v3, rfl, ho3, hb3⟩
      have hbl : Below (w1.heap.size + 1) (w1.alloc (.cells #[.int .i64 0, .slice a1 (t - f) c1] 46)) w3 := hb3.mono (by simp)
      have hbw3 := hbwA.trans (hbl.mono (by have := hbw1.size; omega))
      have ho4 : Own w3 (w1.heap.size + 1) v3 r.2 := ho3.lower (by simp)
      obtain ⟨a3, c3, hv3, -, -⟩ := ho4.form
      subst hv3
      obtain ⟨q0, q1, f0, f1⟩ := res_block rfl hbl
      obtain ⟨k0, k1⟩ := res_both q0 q1 (.int .i64 r.1) (.slice a3 r.2.length c3)
      have HE : Hid (∀ n, Own (((w3.setCell ⟨w1.heap.size, 0, none⟩ (.int .i64 r.1)).setCell ⟨w1.heap.size, 1, none⟩ (.slice a3 r.2.length c3)).drewN n) w.heap.size (.slice a3 r.2.length c3) r.2 ∧ Below w.heap.size w (((w3.setCell ⟨w1.heap.size, 0, none⟩ (.int .i64 r.1)).setCell ⟨w1.heap.size, 1, none⟩ (.slice a3 r.2.length c3)).drewN n)) := fun n =>
        ⟨((ho4.kept _ (by simp) _).kept _ (by simp) _).lower (by have := hbw1.size; omega), ((hbw3.setCell (p := ⟨w1.heap.size, 0, none⟩) hbw1.size _).setCell (p := ⟨w1.heap.size, 1, none⟩) hbw1.size _).trans ⟨rfl, rfl, rfl, Nat.le_refl _, fun _ _ => rfl⟩⟩
      clear  HD ho3 hb3 ho4 ho1 hbl
      go_wp2_with fail
      go_quiet (fail)
      go_wp2
      go_ret2
      exact ⟨_, rfl, HE.out _⟩
    · have h3' : (p2 == 3) = false := by simpa using h3
      have hV := HV1.out h2 h3
      obtain ⟨rc, rl⟩ := r
      obtain ⟨rfl, rfl⟩ : rc = 0 ∧ rl = cutN d f t := by simpa using hV
      have HE : Hid (∀ n, Own ((w1.alloc (.cells #[.int .i64 0, .slice a1 (t - f) c1] 46)).drewN n) w.heap.size (.slice a1 (t - f) c1) (cutN d f t) ∧ Below w.heap.size w ((w1.alloc (.cells #[.int .i64 0, .slice a1 (t - f) c1] 46)).drewN n)) := fun n =>
        ⟨(ho1.alloc _).lower hbq.size, hbwA.trans ⟨rfl, rfl, rfl, Nat.le_refl _, fun _ _ => rfl⟩⟩
      clear hV HV1 HV2 HV3 ho1
      go_wp2_with fail
      go_quiet (fail)
      go_wp2
      go_ret2
      exact ⟨_, rfl, HE.out _⟩
end Go.Proofs.YtkjnhcnbbojajaaGreatDoor
