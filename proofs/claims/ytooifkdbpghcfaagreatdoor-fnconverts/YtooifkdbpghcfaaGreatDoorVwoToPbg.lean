/- The bytes that a part tells, the model's: l6Bytes · What a face answers: seen, or with a code · PartBytes, both sides. -/
import Derived.Test.YtooifkdbpghcfaaGreatDoorDecQ4ToPbf
import Derived.Test.YtooifkdbpghcfaaGreatDoorByeToHdr
namespace Go.Proofs.YtooifkdbpghcfaaGreatDoor
open Go.RowKit

/-- A part's first five numbers stand at a place. -/
def PtC (w : World) (P o : Nat) (p : PtP) : Prop := P < w.heap.size ∧ w.cell? ⟨P, o, none⟩ = some (.int .i64 p.1.1) ∧ w.cell? ⟨P, o + 1, none⟩ = some (.int .i64 p.1.2.1) ∧ w.cell? ⟨P, o + 2, none⟩ = some (.int .i64 p.1.2.2) ∧ w.cell? ⟨P, o + 3, none⟩ = some (.int .i64 p.2.1.1) ∧ w.cell? ⟨P, o + 4, none⟩ = some (.int .i64 p.2.1.2)
theorem PtC.below {w w' : World} {P o : Nat} {p : PtP} (h : PtC w P o p) (hb : Below w.heap.size w w') : PtC w' P o p :=
  ⟨Nat.lt_of_lt_of_le h.1 hb.size, (hb.cell (p := ⟨P, o, none⟩) h.1).trans h.2.1, (hb.cell (p := ⟨P, o + 1, none⟩) h.1).trans h.2.2.1, (hb.cell (p := ⟨P, o + 2, none⟩) h.1).trans h.2.2.2.1, (hb.cell (p := ⟨P, o + 3, none⟩) h.1).trans h.2.2.2.2.1, (hb.cell (p := ⟨P, o + 4, none⟩) h.1).trans h.2.2.2.2.2⟩
theorem PtC.of {w : World} {P : Nat} {p : PtP} (h : PtAt w P p.1.1 p.1.2.1 p.1.2.2 p.2.1.1 p.2.1.2 p.2.2.1 p.2.2.2) : PtC w P 0 p := by
  obtain ⟨x0, x1, x2, x3, x4, x5, x6⟩ := h.cells
  exact ⟨h.lt, x0, x1, x2, x3, x4⟩

set_option maxHeartbeats 3200000 in
set_option maxRecDepth 100000 in
theorem l6Bytes_any {cp : Nat} (b m P o0 : Nat) (d : List Nat) (p : PtP) (f t : Nat) (w : World) (hr : Rd w (some ⟨b, 0, none⟩) d) (hB : IsB d) (hl : d.length = m) (hm : m ≤ 400) (hp : p.2.1 = ((f : Int), (t : Int))) (hft : f ≤ t) (htm : t ≤ m) (hP : PtC w P o0 p) (hcp : m ≤ cp := by omega) :
    Calls Tryz.prog 66 #[.slice (some ⟨b, 0, none⟩) m cp, .pointer (some ⟨P, o0, none⟩)] w fun e w' => ∃ v, e = .returned (.tuple #[v, .int .i64 (byV (cutN d f t) p.1.2.2).1]) ∧ Own w' w.heap.size v (byV (cutN d f t) p.1.2.2).2 ∧ Below w.heap.size w w' := by
  obtain ⟨⟨p0, p1, p2⟩, ⟨p3, p4⟩, p5, p6⟩ := p
  dsimp only at hp ⊢
  obtain ⟨rfl, rfl⟩ : p3 = (f : Int) ∧ p4 = (t : Int) := by simpa using hp
  have hBc : IsB (cutN d f t) := isB_drop (isB_take hB _) _
  have hcl : (cutN d f t).length = t - f := by unfold cutN; rw [List.length_drop, List.length_take]; omega
  have HR1 : Hid (∀ W, Below w.heap.size w W → Rd W (some ⟨b, f, none⟩) (cutN d f t)) := fun W hW => by
    have h := (rd_takeH (hr.below hW) t).drop f
    rw [Nat.zero_add] at h; exact h
  have HR0 : Hid (cp = f → ∀ W, Below w.heap.size w W → Rd W (some ⟨b, 0, none⟩) (cutN d f t)) := fun hmf W hW => by
    rw [List.length_eq_zero_iff.1 (show (cutN d f t).length = 0 by omega)]; exact .inl rfl
  have hi1 : (f : Int) ≤ (t : Int) := by omega
  have hi2 : (t : Int) ≤ (m : Int) := by omega
  obtain ⟨hPl, x0, x1, x2, x3, x4⟩ := hP
  dsimp only at x0 x1 x2 x3 x4
  clear hp
  have HV2 : Hid (p2 = 2 → byV (cutN d f t) p2 = decB (repL (cutN d f t))) := fun h => if_pos h
  have HV3 : Hid (p2 = 3 → byV (cutN d f t) p2 = decQ (cutN d f t)) := fun h => by rw [h]; rfl
  have HV1 : Hid (p2 ≠ 2 → p2 ≠ 3 → byV (cutN d f t) p2 = (0, cutN d f t)) := fun h h' => (if_neg h).trans (if_neg h')
  generalize byV (cutN d f t) p2 = r at *
  go_enter Tryz.func66, Tryz.ntmps66
  go_wp2_with fail
  go_quiet (fail)
  obtain ⟨o, hoe, HRO⟩ : ∃ o : Nat, (if cp = f then (some ⟨b, 0, none⟩ : Option Addr) else some ⟨b, f, none⟩) = some ⟨b, o, none⟩ ∧ Hid (∀ W, Below w.heap.size w W → Rd W (some ⟨b, o, none⟩) (cutN d f t)) := by
    by_cases h : cp = f
    · exact ⟨0, if_pos h, HR0.out h⟩
    · exact ⟨f, if_neg h, HR1.out⟩
  rw [hoe]
  have hbq : Below w.heap.size w (w.drewN nq) := ⟨rfl, rfl, rfl, Nat.le_refl _, fun _ _ => rfl⟩
  generalize w.drewN nq = wq at *
  have y2 : wq.cell? ⟨P, o0 + 2, none⟩ = some (.int .i64 p2) := (hbq.cell (p := ⟨P, o0 + 2, none⟩) hPl).trans x2
  have hPq : P < wq.heap.size := Nat.lt_of_lt_of_le hPl hbq.size
  clear x0 x1 x2 x3 x4 hoe HR0 HR1
  generalize hcq : cp - f = cq at *
  clear hcq
  go_wp2_with fail
  refine (l1Copy_any b o (t - f) _ (cutN d f t) _ hcl (HRO.out _ hbq) (by omega)).mono ?_
  rintro e w1 ⟨v1, rfl, ho1, hb1⟩
  obtain ⟨a1, c1, hv1, -, -⟩ := ho1.form
  rw [hcl] at hv1
  subst hv1
  have hbw1 := hbq.trans (hb1.mono hbq.size)
  have z2 : w1.cell? ⟨P, o0 + 2, none⟩ = some (.int .i64 p2) := (hb1.cell (p := ⟨P, o0 + 2, none⟩) hPq).trans y2
  have hPw : P < w1.heap.size := Nat.lt_of_lt_of_le hPq hb1.size
  have hbA : Below w1.heap.size w1 (w1.alloc (.cells #[.int .i64 0, .slice a1 (t - f) c1] 27)) := (Below.refl _ _).alloc (Nat.le_refl _) _
  have hbwA := hbw1.trans (hbA.mono hbw1.size)
  have hRD := HRO.out _ hbwA
  by_cases h2 : p2 = 2
  · subst h2
    have hV := HV2.out rfl
    have HD := fun w => specDecodeBase_any (repL (cutN d f t)) _ w rfl (repL_isB hBc)
    have HJ := l6Joined_any (some ⟨b, o, none⟩) (t - f) cq (cutN d f t) _ hcl hRD hBc (by omega)
    rw [← hV] at HD
    generalize str (repL (cutN d f t)) = sj at *
    clear hV HV1 HV2 HV3
    go_wp2_with fail
    refine HJ.mono ?_
    rintro e w2 ⟨rfl, hb2⟩
    go_wp2_with fail
    refine (HD _).mono ?_
    rintro e w3 ⟨v3, rfl, ho3, hb3⟩
    have hbl : Below (w1.heap.size + 1) (w1.alloc (.cells #[.int .i64 0, .slice a1 (t - f) c1] 27)) w3 := (hb2.trans (hb3.mono hb2.size)).mono (by simp)
    have hbw3 := hbwA.trans (hbl.mono (by have := hbw1.size; omega))
    have hz2 := hb2.size
    rw [World.size_alloc] at hz2
    have ho4 : Own w3 (w1.heap.size + 1) v3 r.2 := ho3.lower hz2
    obtain ⟨a3, c3, hv3, -, -⟩ := ho4.form
    subst hv3
    obtain ⟨q0, q1, f0, f1⟩ := res_block rfl hbl
    obtain ⟨k0, k1⟩ := res_both q0 q1 (.int .i64 r.1) (.slice a3 r.2.length c3)
    have HE : Hid (∀ n, Own (((w3.setCell ⟨w1.heap.size, 0, none⟩ (.int .i64 r.1)).setCell ⟨w1.heap.size, 1, none⟩ (.slice a3 r.2.length c3)).drewN n) w.heap.size (.slice a3 r.2.length c3) r.2 ∧ Below w.heap.size w (((w3.setCell ⟨w1.heap.size, 0, none⟩ (.int .i64 r.1)).setCell ⟨w1.heap.size, 1, none⟩ (.slice a3 r.2.length c3)).drewN n)) := fun n =>
      ⟨((ho4.kept _ (by simp) _).kept _ (by simp) _).lower (by have := hbw1.size; omega), ((hbw3.setCell (p := ⟨w1.heap.size, 0, none⟩) hbw1.size _).setCell (p := ⟨w1.heap.size, 1, none⟩) hbw1.size _).trans ⟨rfl, rfl, rfl, Nat.le_refl _, fun _ _ => rfl⟩⟩
    clear HJ HD ho3 hb3 ho4 ho1 hbl
    go_wp2_with fail
    go_quiet (fail)
    go_wp2
    go_ret2
    exact ⟨_, rfl, HE.out _⟩
  · have h2' : (p2 == 2) = false := by simpa using h2
    by_cases h3 : p2 = 3
    · subst h3
      have hV := HV3.out rfl
      have HD := fun w => specDecodeQuoted_any (cutN d f t) _ w rfl hBc
      have hst := fun c => run_str (cap := c) hcl hRD
      rw [← hV] at HD
      generalize str (cutN d f t) = sj at *
      clear hV HV1 HV2 HV3
      go_wp2_with fail
      refine (HD _).mono ?_
      rintro e w3 ⟨v3, rfl, ho3, hb3⟩
      have hbl : Below (w1.heap.size + 1) (w1.alloc (.cells #[.int .i64 0, .slice a1 (t - f) c1] 27)) w3 := hb3.mono (by simp)
      have hbw3 := hbwA.trans (hbl.mono (by have := hbw1.size; omega))
      have ho4 : Own w3 (w1.heap.size + 1) v3 r.2 := ho3.lower (by simp)
      obtain ⟨a3, c3, hv3, -, -⟩ := ho4.form
      subst hv3
      obtain ⟨q0, q1, f0, f1⟩ := res_block rfl hbl
      obtain ⟨k0, k1⟩ := res_both q0 q1 (.int .i64 r.1) (.slice a3 r.2.length c3)
      have HE : Hid (∀ n, Own (((w3.setCell ⟨w1.heap.size, 0, none⟩ (.int .i64 r.1)).setCell ⟨w1.heap.size, 1, none⟩ (.slice a3 r.2.length c3)).drewN n) w.heap.size (.slice a3 r.2.length c3) r.2 ∧ Below w.heap.size w (((w3.setCell ⟨w1.heap.size, 0, none⟩ (.int .i64 r.1)).setCell ⟨w1.heap.size, 1, none⟩ (.slice a3 r.2.length c3)).drewN n)) := fun n =>
        ⟨((ho4.kept _ (by simp) _).kept _ (by simp) _).lower (by have := hbw1.size; omega), ((hbw3.setCell (p := ⟨w1.heap.size, 0, none⟩) hbw1.size _).setCell (p := ⟨w1.heap.size, 1, none⟩) hbw1.size _).trans ⟨rfl, rfl, rfl, Nat.le_refl _, fun _ _ => rfl⟩⟩
      clear  HD ho3 hb3 ho4 ho1 hbl
      go_wp2_with fail
      go_quiet (fail)
      go_wp2
      go_ret2
      exact ⟨_, rfl, HE.out _⟩
    · have h3' : (p2 == 3) = false := by simpa using h3
      have hV := HV1.out h2 h3
      obtain ⟨rc, rl⟩ := r
      obtain ⟨rfl, rfl⟩ : rc = 0 ∧ rl = cutN d f t := by simpa using hV
      have HE : Hid (∀ n, Own ((w1.alloc (.cells #[.int .i64 0, .slice a1 (t - f) c1] 27)).drewN n) w.heap.size (.slice a1 (t - f) c1) (cutN d f t) ∧ Below w.heap.size w ((w1.alloc (.cells #[.int .i64 0, .slice a1 (t - f) c1] 27)).drewN n)) := fun n =>
        ⟨(ho1.alloc _).lower hbq.size, hbwA.trans ⟨rfl, rfl, rfl, Nat.le_refl _, fun _ _ => rfl⟩⟩
      clear hV HV1 HV2 HV3 ho1
      go_wp2_with fail
      go_quiet (fail)
      go_wp2
      go_ret2
      exact ⟨_, rfl, HE.out _⟩
end Go.Proofs.YtooifkdbpghcfaaGreatDoor

namespace Go.Proofs.YtooifkdbpghcfaaGreatDoor
open Go.RowKit

theorem seeB_of (G : Nat) (caps : Array Value) (r : Int × List Nat) (w : World) (hG : ∀ (args : Array Value) (w : World), (callFunc G args).run Tryz.prog w = .ok (.enter G args) w) (hz : r.1 ≠ 0 → r.2 = [])
    (h : Calls Tryz.prog G caps (w.alloc (.cells #[.int .i64 0] 2)) (SeeB r (w.alloc (.cells #[.int .i64 0] 2)))) :
    Calls Tryz.prog 27 #[.func (.func G) #[] caps] w fun e w' => ∃ v, e = .returned (.tuple #[v, .int .i64 r.1]) ∧ Own w' w.heap.size v r.2 ∧ Below w.heap.size w w' := by
  by_cases h0 : r.1 = 0
  · rw [h0]
    refine seeB_ok G caps r.2 w hG (h.mono ?_)
    rintro e w' ⟨⟨_, v, rfl, ho⟩ | ⟨h1, _⟩, hb⟩
    · rw [World.size_alloc] at ho hb
      exact ⟨v, rfl, ho, hb⟩
    · exact absurd h0 h1
  · rw [hz h0]
    refine (seeB_bad G caps r.1 w hG (h.mono ?_)).mono ?_
    · rintro e w' ⟨⟨h1, _⟩ | ⟨_, rfl⟩, hb⟩
      · exact absurd h1 h0
      · rw [World.size_alloc] at hb
        exact ⟨rfl, hb⟩
    · rintro e w' ⟨rfl, hb⟩
      exact ⟨_, rfl, Own.nil _ _, hb⟩
theorem seeI_of (G : Nat) (caps : Array Value) (r : Int × List Int) (w : World) (hG : ∀ (args : Array Value) (w : World), (callFunc G args).run Tryz.prog w = .ok (.enter G args) w) (hz : r.1 ≠ 0 → r.2 = [])
    (h : Calls Tryz.prog G caps (w.alloc (.cells #[.int .i64 0] 2)) (SeeI r (w.alloc (.cells #[.int .i64 0] 2)))) :
    Calls Tryz.prog 34 #[.func (.func G) #[] caps] w fun e w' => ∃ v, e = .returned (.tuple #[v, .int .i64 r.1]) ∧ OwnI w' w.heap.size v r.2 ∧ Below w.heap.size w w' := by
  by_cases h0 : r.1 = 0
  · rw [h0]
    refine seeI_ok G caps r.2 w hG (h.mono ?_)
    rintro e w' ⟨⟨_, v, rfl, ho⟩ | ⟨h1, _⟩, hb⟩
    · rw [World.size_alloc] at ho hb
      exact ⟨v, rfl, ho, hb⟩
    · exact absurd h0 h1
  · rw [hz h0]
    refine (seeI_bad G caps r.1 w hG (h.mono ?_)).mono ?_
    · rintro e w' ⟨⟨h1, _⟩ | ⟨_, rfl⟩, hb⟩
      · exact absurd h1 h0
      · rw [World.size_alloc] at hb
        exact ⟨rfl, hb⟩
    · rintro e w' ⟨rfl, hb⟩
      exact ⟨_, rfl, OwnI.nil _ _, hb⟩
theorem BytEnd.at_ {c : Int} {w w1 : World} {v : Value} {l : List Nat} {R : Nat} (hbel : Below w.heap.size w w1) (hR : w.heap.size ≤ R) (hown : Own w1 (R + 1) v l) (x y : Value) : BytEnd (c, l) w (.returned (.agg #[.int .i64 c, v])) ((w1.setCell ⟨R, 0, none⟩ x).setCell ⟨R, 1, none⟩ y) :=
  ⟨v, rfl, row_low (ownsRow_setCell_below (ownsRow_setCell_below hown (by simp) _) (by simp) _) (by omega), (hbel.setCell (p := ⟨R, 0, none⟩) hR _).setCell (p := ⟨R, 1, none⟩) hR _⟩
theorem res_at {wr : World} {sz : Nat} {x0 x1 : Value} (h0 : wr.cell? ⟨sz, 0, none⟩ = some x0) (h1 : wr.cell? ⟨sz, 1, none⟩ = some x1) (c t : Value) :
    ((wr.setCell ⟨sz, 0, none⟩ c).setCell ⟨sz, 1, none⟩ t).cell? ⟨sz, 0, none⟩ = some c ∧ ((wr.setCell ⟨sz, 0, none⟩ c).setCell ⟨sz, 1, none⟩ t).cell? ⟨sz, 1, none⟩ = some t := by
  obtain ⟨q0, q1⟩ := res_cells h0 h1 c t
  exact ⟨by simp [go_sem, q0], q1⟩
theorem new_cell1 {W : World} {s : Nat} (h : W.heap.size = s) (v : Value) (t : TypeId) : (W.alloc (.cells #[v] t)).cell? ⟨s, 0, none⟩ = some v := by subst h; simp
theorem cellB {W : World} {o : Obj} {p : Addr} {v : Value} (h : W.cell? p = some v) : (W.alloc o).cell? p = some v := (((Below.refl _ W).alloc (Nat.le_refl _) o).cell (World.block_lt_of_cell? W _ h)).trans h
end Go.Proofs.YtooifkdbpghcfaaGreatDoor

namespace Go.Proofs.YtooifkdbpghcfaaGreatDoor
open Go.RowKit

theorem decB_zero {t : List Nat} (h : (decB t).1 ≠ 0) : (decB t).2 = [] := by
  unfold decB at h ⊢
  split
  · rfl
  · rename_i h1
    rw [if_neg h1] at h
    split
    · rfl
    · rename_i h2
      rw [h2] at h
      dsimp only at h ⊢
      split
      · rfl
      · rename_i h3
        rw [if_neg h3] at h
        exact absurd rfl h
theorem decQ_zero {t : List Nat} (h : (decQ t).1 ≠ 0) : (decQ t).2 = [] := by
  unfold decQ at h ⊢
  split
  · rfl
  · rename_i h1
    rw [if_neg h1] at h
    split
    · rfl
    · rename_i h2
      rw [h2] at h
      dsimp only at h ⊢
      split
      · rfl
      · rename_i h3
        rw [if_neg h3] at h
        exact absurd rfl h
theorem decB_len (t : List Nat) : (decB t).2.length ≤ 400 := by
  unfold decB
  split
  · simp
  · split
    · simp
    · split
      · simp
      · dsimp only; omega
theorem decQ_len (t : List Nat) : (decQ t).2.length ≤ 400 := by
  unfold decQ
  split
  · simp
  · split
    · simp
    · split
      · simp
      · dsimp only; omega
theorem byV_zero {l : List Nat} {g : Int} (h : (byV l g).1 ≠ 0) : (byV l g).2 = [] := by
  unfold byV at h ⊢
  split
  · rename_i h1; rw [if_pos h1] at h; exact decB_zero h
  · rename_i h1
    rw [if_neg h1] at h
    split
    · rename_i h2; rw [if_pos h2] at h; exact decQ_zero h
    · rename_i h2; rw [if_neg h2] at h; exact absurd rfl h
theorem pbV_zero {d : List Nat} {k : Int} (h : (pbV d k).1 ≠ 0) : (pbV d k).2 = [] := by
  unfold pbV at h ⊢
  split
  · rename_i h1; rw [if_pos h1] at h; exact byV_zero h
  · rfl

set_option maxHeartbeats 1600000 in
set_option maxRecDepth 100000 in
theorem partBytes_any {cp : Nat} (b m : Nat) (d : List Nat) (k : Int) (w : World) (hr : Rd w (some ⟨b, 0, none⟩) d) (hT : TabC w) (hTB : TabB w) (hTH : TabH w) (hMI : MaxI w) (hB : IsB d) (hl : d.length = m) (hcp : m ≤ cp := by omega) :
    Calls Tryz.prog 22 #[.slice (some ⟨b, 0, none⟩) m cp, .int .i64 k] w (BytEnd (pbV d k) w) := by
  have hmf : ∀ (fn : Fn) (first cap : Array Value) (w : World), (Instr.makeFunc fn first cap).run Tryz.prog w = .ok (.func fn first cap) w := fun _ _ _ _ => rfl
  have hG : ∀ (args : Array Value) (w : World), (callFunc 54 args).run Tryz.prog w = .ok (.enter 54 args) w := fun _ _ => by kernel_rfl
  have hb0 : Below w.heap.size w (((w.alloc (.cells #[.slice (some ⟨b, 0, none⟩) m cp] 22)).alloc (.cells #[.int .i64 k] 2)).alloc (.cells #[.int .i64 0, .slice none 0 0] 27)) := (((Below.refl _ _).alloc (Nat.le_refl _) _).alloc (by simp) _).alloc (by simp; omega) _
  have HS : Hid (∀ W : World, Below w.heap.size w W → W.cell? ⟨w.heap.size, 0, none⟩ = some (.slice (some ⟨b, 0, none⟩) m cp) → W.cell? ⟨w.heap.size + 1, 0, none⟩ = some (.int .i64 k) → Calls Tryz.prog 27 #[.func (.func 54) #[] #[.pointer (some ⟨w.heap.size, 0, none⟩), .pointer (some ⟨w.heap.size + 1, 0, none⟩)]] W fun e w' => ∃ v, e = .returned (.tuple #[v, .int .i64 (pbV d k).1]) ∧ Own w' W.heap.size v (pbV d k).2 ∧ Below W.heap.size W w') := fun W hW c0 c1 => by
    have hbC := hW.alloc hW.size (.cells #[.int .i64 0] 2)
    exact seeB_of _ _ (pbV d k) W hG (fun h => pbV_zero h) (partBytes1_any b m _ _ d k _ (hr.below hbC) (hT.below hbC) (hTB.below hbC) (hTH.below hbC) (hMI.below hbC) hB hl (cellB c0) (cellB c1))
  generalize pbV d k = r at *
  obtain ⟨rc, rl⟩ := r
  dsimp only at HS
  have x0 : (((w.alloc (.cells #[.slice (some ⟨b, 0, none⟩) m cp] 22)).alloc (.cells #[.int .i64 k] 2)).alloc (.cells #[.int .i64 0, .slice none 0 0] 27)).cell? ⟨w.heap.size, 0, none⟩ = some (.slice (some ⟨b, 0, none⟩) m cp) := cellB (cellB (by simp))
  have x1 : (((w.alloc (.cells #[.slice (some ⟨b, 0, none⟩) m cp] 22)).alloc (.cells #[.int .i64 k] 2)).alloc (.cells #[.int .i64 0, .slice none 0 0] 27)).cell? ⟨w.heap.size + 1, 0, none⟩ = some (.int .i64 k) := cellB (new_cell1 (by simp) _ _)
  have hsz : (((w.alloc (.cells #[.slice (some ⟨b, 0, none⟩) m cp] 22)).alloc (.cells #[.int .i64 k] 2)).alloc (.cells #[.int .i64 0, .slice none 0 0] 27)).heap.size = w.heap.size + 1 + 1 + 1 := by simp
  have HRB := fun (wx : World) (hx : Below (w.heap.size + 1 + 1 + 1) (((w.alloc (.cells #[.slice (some ⟨b, 0, none⟩) m cp] 22)).alloc (.cells #[.int .i64 k] 2)).alloc (.cells #[.int .i64 0, .slice none 0 0] 27)) wx) => res_block (w := ((w.alloc (.cells #[.slice (some ⟨b, 0, none⟩) m cp] 22)).alloc (.cells #[.int .i64 k] 2))) (wr := wx) rfl (by simpa using hx)
  have hs3 : ((w.alloc (.cells #[.slice (some ⟨b, 0, none⟩) m cp] 22)).alloc (.cells #[.int .i64 k] 2)).heap.size = w.heap.size + 1 + 1 := by simp
  rw [hs3] at HRB
  go_enter Tryz.func22, Tryz.ntmps22
  go_wp2_with fail
  refine (HS.out _ hb0 x0 x1).mono ?_
  rintro e w1 ⟨v, rfl, ho, hb1⟩
  rw [hsz] at ho hb1
  obtain ⟨a0, a1, z0, z1⟩ := HRB w1 hb1
  have hbw := hb0.trans (hb1.mono (by omega))
  obtain ⟨a, cp, hv, -, -⟩ := ho.form
  subst hv
  obtain ⟨k0, k1⟩ := res_at a0 a1 (.int .i64 rc) (.slice a rl.length cp)
  have HE : Hid (_) := BytEnd.at_ (c := rc) hbw (R := w.heap.size + 1 + 1) (by omega) ho (.int .i64 rc) (.slice a rl.length cp)
  clear HRB x0 x1 HS hb0 hsz hs3 hb1 ho
  go_wp2
  refine bodyPost_ret (v := .agg #[.int .i64 rc, .slice a rl.length cp]) (by simp [results, Tryz.results22, go_sem, k0, k1]) rfl ?_
  exact HE.out

theorem byV_len {l : List Nat} {g : Int} (h : l.length ≤ 400) : (byV l g).2.length ≤ 400 := by
  unfold byV
  split
  · exact decB_len _
  · split
    · exact decQ_len _
    · exact h
end Go.Proofs.YtooifkdbpghcfaaGreatDoor
