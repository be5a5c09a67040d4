/- The laws' marks of ops in a row: what is marked is found again; no conditions beyond those that each fact names. -/
import Derived.Test.YthiieeblpefcpaaDoorJrq
import Derived.Test.YthiieeblpefcpaaDoorOsx
import Derived.Test.YthiieeblpefcpaaDoorOrl
import Derived.Deep.RegionHeld3
namespace Go.Proofs.YthiieeblpefcpaaDoor
open Go.RowKit
set_option linter.unusedVariables false

/-- The digits of a number ahead of a text. -/
def dgJ (k : Nat) (out : List Nat) : List Nat := if _h : k = 0 then out else dgJ (k / 10) ((48 + k % 10) :: out)
termination_by k
decreasing_by omega
theorem dgJ_zero (out : List Nat) : dgJ 0 out = out := by rw [dgJ, dif_pos rfl]
theorem dgJ_step {k : Nat} (h : k ≠ 0) (out : List Nat) : dgJ k out = dgJ (k / 10) ((48 + k % 10) :: out) := by rw [dgJ, dif_neg h]
/-- The mark of a number from 1 on. -/
def mtJ (k : Nat) : ByteArray := str (109 :: dgJ k [])
set_option maxHeartbeats 800000 in
set_option maxRecDepth 100000 in
theorem markText_eq (k : Nat) (w : World) (h1 : 1 ≤ k) (hk : k ≤ 4194304) : Calls Tryd.prog 71 #[.int .i64 (k : Int)] w fun e w' => e = .returned (.string (mtJ k)) ∧ Below w.heap.size w w' := by
  have c1 : ¬ (k : Int) ≤ 0 := by omega
  go_enter Tryd.func71, Tryd.ntmps71
  go_wp2
  go_loopw [0, 3] (fun q v wr => ∃ (j : Nat) (out : List Nat), j + out.length ≤ k ∧ q = .int .i64 j ∧ v = .string (str out) ∧ dgJ k [] = dgJ j out ∧ Below w.heap.size w wr) (fun q _ _ => (intOf q).toNat)
  case atStart => exact ⟨k, [], Nat.le_refl _, rfl, rfl, rfl, Below.refl _ _⟩
  case round =>
    obtain ⟨j, out, hj, rfl, rfl, hd, hbel⟩ := hrel
    have hos : (str out).size = out.length := str_size out
    have hob : out.length ≤ 4194304 := by omega
    by_cases hj0 : j = 0
    · subst hj0
      rw [dgJ_zero] at hd
      have HM : Hid (⟨#[109]⟩ ++ str out = mtJ k) := by
        show _ = _
        unfold mtJ; rw [hd]
        exact strJ_plus [109] out
      clear hd
      generalize hL : out.length = L at *
      clear hL
      generalize str out = so at *
      go_wp2
      go_ret
      exact ⟨by rw [← HM.out]; rfl, hbel⟩
    · have hjp : (0 : Int) < (j : Int) := by omega
      obtain ⟨r, hr⟩ : ∃ r, r = j % 10 := ⟨_, rfl⟩
      obtain ⟨p, hp⟩ : ∃ p, p = j / 10 := ⟨_, rfl⟩
      have hr10 : r < 10 := by omega
      have hpj : p < j := by omega
      have HD : Hid (dgJ k [] = dgJ p ((48 + r) :: out)) := by
        show _ = _
        rw [hd, dgJ_step hj0, ← hr, ← hp]
      have hst := fun (c : Nat) => run_str (w := wr.alloc (.cells #[.int .u8 ((48 + r : Nat) : Int)] 5)) (a := some ⟨wr.heap.size, 0, none⟩) (n := 1) (cap := c) (l := [48 + r]) rfl (.inr ⟨wr.heap.size, 0, rfl, by simp, fun i hi => by
        have : i = 0 := by simp at hi; omega
        subst this; simp [nth]⟩)
      rw [show ((48 + r : Nat) : Int) = 48 + (r : Int) by omega] at hst
      have e1 : (j : Int) % 10 = (r : Int) := by omega
      have e2 : (j : Int) / 10 = (p : Int) := by omega
      have HP : Hid (str [48 + r] ++ str out = str ((48 + r) :: out)) := strJ_plus [48 + r] out
      have hsr : (str [48 + r]).size = 1 := str_size _
      have HL : Hid (p + ((48 + r) :: out).length ≤ k) := by
        show _ ≤ _
        rw [List.length_cons]; omega
      have hb2 : Below w.heap.size w (wr.alloc (.cells #[.int .u8 (48 + (r : Int))] 5)) := hbel.alloc hbel.size _
      clear hd hr hp
      go_wp2
      go_roundw
      case rel => exact ⟨p, (48 + r) :: out, HL.out, rfl, by rw [HP.out], HD.out, hb2⟩
      case measure => simp [intOf]; omega


/-- The mark that an op begins with. -/
def kJ (l : List OpR) : Nat := l.foldl (fun k o => k + 6 + o.u.length + o.b.length) 1
theorem kJ_snoc (l : List OpR) (j : Nat) (h : j < l.length) : kJ (l.take (j + 1)) = kJ (l.take j) + 6 + (nthO l j).u.length + (nthO l j).b.length := by
  rw [List.take_succ_eq_append_getElem h, nthO_get h]
  unfold kJ
  rw [List.foldl_append]
  rfl
/-- An op of a row holds its marks. -/
structure HdJ (w : World) (b : Nat) (o : OpR) (k j : Nat) (p : SlO) : Prop where
  c0 : w.cell? ⟨b, j * 8, none⟩ = some (.int .i64 (k : Int))
  c1 : w.cell? ⟨b, j * 8 + 1, none⟩ = some (.string (mtJ (k + 1)))
  c2 : w.cell? ⟨b, j * 8 + 2, none⟩ = some (.string (mtJ (k + 2)))
  c3 : w.cell? ⟨b, j * 8 + 3, none⟩ = some (slW p.1)
  c4 : w.cell? ⟨b, j * 8 + 4, none⟩ = some (.int .i64 ((k + 3 + p.1.2.1 : Nat) : Int))
  c5 : w.cell? ⟨b, j * 8 + 5, none⟩ = some (.int .i64 (((k + 3 + p.1.2.1 : Nat) : Int) + 1))
  c6 : w.cell? ⟨b, j * 8 + 6, none⟩ = some (.int .i64 (((k + 3 + p.1.2.1 : Nat) : Int) + 1 + 1))
  c7 : w.cell? ⟨b, j * 8 + 7, none⟩ = some (slW p.2)
  u : RdI w p.1.1 (marksI p.1.2.1 (k + 3))
  d : Rd w p.2.1 (marks p.2.2.1 (k + 3 + p.1.2.1 + 3))
  n1 : p.1.2.1 = o.u.length
  n2 : p.2.2.1 = o.b.length

set_option maxHeartbeats 1600000 in
set_option maxRecDepth 100000 in
theorem heldOpS_any (a : Option Addr) (b n cap : Nat) (l : List OpR) (w : World) (ha : n = 0 ∨ a = some ⟨b, 0, none⟩) (hb : n = 0 ∨ b < w.heap.size) (hl : l.length = n) (hn : n ≤ 8000) (h : ∀ j, j < n → ∃ p, HdJ w b (nthO l j) (kJ (l.take j)) j p) (hk : ∀ j, j ≤ n → 1 ≤ kJ (l.take j) ∧ kJ (l.take j) ≤ 500000) :
    Calls Tryd.prog 72 #[.slice a n cap, .int .i64 1] w fun e w' => e = .returned (.int .i64 (kJ l : Int)) ∧ Below w.heap.size w w' := by
  have HL : Hid (l.length = n) := hl
  have HH : Hid (∀ j, j < n → ∃ p, HdJ w b (nthO l j) (kJ (l.take j)) j p) := h
  have HK : Hid (∀ j, j ≤ n → 1 ≤ kJ (l.take j) ∧ kJ (l.take j) ≤ 500000) := hk
  clear h hl hk
  go_enter Tryd.func72, Tryd.ntmps72
  go_wp2
  go_loopw [1, 5] (fun q i wr => ∃ j : Nat, j ≤ n ∧ i = .int .i64 j ∧ q = .int .i64 ((kJ (l.take j) : Nat) : Int) ∧ Below w.heap.size w wr) (fun _ i _ => n - (intOf i).toNat)
  case atStart => exact ⟨0, Nat.zero_le _, rfl, rfl, Below.refl _ _⟩
  case round =>
    obtain ⟨j, hj, rfl, rfl, hbel⟩ := hrel
    by_cases hjn : j < n
    · obtain rfl : a = some ⟨b, 0, none⟩ := ha.resolve_left (by omega)
      have hblt : b < w.heap.size := hb.resolve_left (by omega)
      have hji : (j : Int) < (n : Int) := by omega
      obtain ⟨p, h0, hc1', hc2', h3, h4, h5, h6, h7, hu, hd, n1, n2⟩ := HH.out j hjn
      have HSN : Hid (kJ (l.take (j + 1)) = kJ (l.take j) + 6 + p.1.2.1 + p.2.2.1) := by show _ = _; rw [kJ_snoc l j (by rw [HL.out]; exact hjn), n1, n2]
      obtain ⟨hk1, hk2⟩ := HK.out j hj
      have hk3 := (HK.out (j + 1) hjn).2
      rw [HSN.out] at hk3
      have lb : b < wr.heap.size := Nat.lt_of_lt_of_le hblt hbel.size
      have hW : ∀ f, wr.cell? ⟨b, f, none⟩ = w.cell? ⟨b, f, none⟩ := fun f => hbel.cell (p := ⟨b, f, none⟩) hblt
      have HCS : Hid (∀ x, Below wr.heap.size wr x → x.cell? ⟨b, j * 8 + 3, none⟩ = some (slW p.1) ∧ x.cell? ⟨b, j * 8 + 4, none⟩ = some (.int .i64 ((kJ (l.take j) + 3 + p.1.2.1 : Nat) : Int)) ∧ x.cell? ⟨b, j * 8 + 5, none⟩ = some (.int .i64 (((kJ (l.take j) + 3 + p.1.2.1 : Nat) : Int) + 1)) ∧ x.cell? ⟨b, j * 8 + 6, none⟩ = some (.int .i64 (((kJ (l.take j) + 3 + p.1.2.1 : Nat) : Int) + 1 + 1)) ∧ x.cell? ⟨b, j * 8 + 7, none⟩ = some (slW p.2) ∧ RdI x p.1.1 (marksI p.1.2.1 (kJ (l.take j) + 3)) ∧ Rd x p.2.1 (marks p.2.2.1 (kJ (l.take j) + 3 + p.1.2.1 + 3)) ∧ Below w.heap.size w x) := fun x hx => by
        have hX : ∀ f, x.cell? ⟨b, f, none⟩ = w.cell? ⟨b, f, none⟩ := fun f => (hx.cell (p := ⟨b, f, none⟩) lb).trans (hW f)
        have hB : Below w.heap.size w x := hbel.trans (hx.mono hbel.size)
        exact ⟨(hX _).trans h3, (hX _).trans h4, (hX _).trans h5, (hX _).trans h6, (hX _).trans h7, hu.below hB, hd.below hB, hB⟩
      have c0 := (hW _).trans h0
      have hc1 := (hW _).trans hc1'
      have hcB := (hW _).trans hc2'
      clear h0 hc1' hc2' h3 h4 h5 h6 h7 hu hd n1 n2 hW
      generalize kJ (l.take j) = k at *
      have HT1 : Hid (∀ w, Calls Tryd.prog 71 #[.int .i64 ((k : Int) + 1)] w fun e w' => e = .returned (.string (mtJ (k + 1))) ∧ Below w.heap.size w w') := fun w => markText_eq (k + 1) w (by omega) (by omega)
      have HT2 : Hid (∀ w, Calls Tryd.prog 71 #[.int .i64 ((k : Int) + 1 + 1)] w fun e w' => e = .returned (.string (mtJ (k + 2))) ∧ Below w.heap.size w w') := fun w => markText_eq (k + 2) w (by omega) (by omega)
      generalize mtJ (k + 1) = t0 at *
      generalize mtJ (k + 2) = t1 at *
      obtain ⟨⟨ua, un, uc⟩, ⟨ba, bn, bc'⟩⟩ := p
      dsimp only [slW] at HCS hk3 HSN
      go_wp2_with fail
      refine wp_region_held_drew (S := fun w' => w'.cell? ⟨b, j * 8 + 1, none⟩ = some (.string t0)) (by kernel_rfl) ?hS1 (fun hHeld => ?_)
      case hS1 => exact hc1
      refine wpAnyH_take (i := 0) (v := ?_) rfl (by kernel_rfl) (by kernel_rfl) (by kernel_rfl) (fun _ _ _ h => h) (Or.inl ⟨by rfl, ?hy10⟩) (by assumption) ?ty10
      case hy10 => (intro w hSw; (try dsimp only at hSw); go_simp; all_goals with_reducible rfl)
      simp only [Act.put, List.getElem_toArray, List.getElem_cons_zero, List.setIfInBounds_toArray, List.set_cons_zero, List.set_cons_succ]
      refine wpAnyH_take (i := 1) (v := ?_) rfl (by kernel_rfl) (by kernel_rfl) (by kernel_rfl) (fun _ _ _ h => h) (Or.inl ⟨by rfl, ?hy11⟩) (by assumption) ?ty11
      case hy11 => (intro w hSw; (try dsimp only at hSw); go_simp; all_goals with_reducible rfl)
      simp only [Act.put, List.getElem_toArray, List.getElem_cons_zero, List.getElem_cons_succ, List.setIfInBounds_toArray, List.set_cons_zero, List.set_cons_succ]
      refine wpAnyH_take (i := 2) (v := ?_) rfl (by kernel_rfl) (by kernel_rfl) (by kernel_rfl) (fun _ _ _ h => h) (Or.inl ⟨by rfl, ?hy12⟩) (by assumption) ?ty12
      case hy12 => (intro w hSw; (try dsimp only at hSw); go_simp; all_goals with_reducible rfl)
      simp only [Act.put, List.getElem_toArray, List.getElem_cons_zero, List.getElem_cons_succ, List.setIfInBounds_toArray, List.set_cons_zero, List.set_cons_succ]
      refine wpAnyH_take (i := 3) (v := ?_) rfl (by kernel_rfl) (by kernel_rfl) (by kernel_rfl) (fun _ _ _ h => h) (Or.inl ⟨by rfl, ?hy13⟩) (by assumption) ?ty13
      case hy13 => (intro w hSw; (try dsimp only at hSw); go_simp; all_goals with_reducible rfl)
      simp only [Act.put, List.getElem_toArray, List.getElem_cons_zero, List.getElem_cons_succ, List.setIfInBounds_toArray, List.set_cons_zero, List.set_cons_succ]
      refine wpAnyH_take (i := 4) (v := ?_) rfl (by kernel_rfl) (by kernel_rfl) (by kernel_rfl) (fun _ _ _ h => h) (Or.inl ⟨by rfl, ?hy14⟩) (by assumption) ?ty14
      case hy14 => (intro w hSw; (try dsimp only at hSw); go_simp; all_goals with_reducible rfl)
      simp only [Act.put, List.getElem_toArray, List.getElem_cons_zero, List.getElem_cons_succ, List.setIfInBounds_toArray, List.set_cons_zero, List.set_cons_succ]
      refine wpAnyH_take (i := 5) (v := ?_) rfl (by kernel_rfl) (by kernel_rfl) (by kernel_rfl) (fun _ _ _ h => h) (Or.inl ⟨by rfl, ?hy15⟩) (by assumption) ?ty15
      case hy15 => (intro w hSw; (try dsimp only at hSw); go_simp; all_goals with_reducible rfl)
      simp only [Act.put, List.getElem_toArray, List.getElem_cons_zero, List.getElem_cons_succ, List.setIfInBounds_toArray, List.set_cons_zero, List.set_cons_succ]
      refine wpAnyH_ready (rs := [6]) (by kernel_rfl) (by simp) ?_
      refine AllReadyH.cons rfl (fun K hK => ?_) AllReadyH.nil
      go_simp
      refine (HT1.out _).mono ?_
      rintro e w1 ⟨rfl, hbx⟩
      have HWw1 : Hid (Below wr.heap.size wr w1) := (Below.refl _ _).drew.trans hbx
      have hsS : w1.cell? ⟨b, j * 8 + 1, none⟩ = some (.string t0) := (HWw1.out.cell (p := ⟨b, j * 8 + 1, none⟩) lb).trans hc1
      refine hK.out _ _ hsS (fun hHeld => ?_)
      clear hK K
      refine wpAnyH_take (i := 7) (v := .bool false) rfl (by kernel_rfl) (by kernel_rfl) (by kernel_rfl) (fun _ _ _ h => h) (Or.inl ⟨by rfl, ?hy17⟩) (by assumption) ?ty17
      case hy17 => (intro w hSw; (try dsimp only at hSw); go_simp; first | (simp; done) | (all_goals with_reducible rfl))
      simp only [Act.put, List.getElem_toArray, List.getElem_cons_zero, List.getElem_cons_succ, List.setIfInBounds_toArray, List.set_cons_zero, List.set_cons_succ]
      refine wpAnyH_done (by kernel_rfl) ?_ _
      clear hHeld hbx hsS HT1
      have hc2 := (HWw1.out.cell (p := ⟨b, j * 8 + 2, none⟩) lb).trans hcB
      have lb1 : b < w1.heap.size := Nat.lt_of_lt_of_le lb HWw1.out.size
      clear c0 hc1 hcB
      go_wp2_with fail
      refine wp_region_held_drew (S := fun w' => w'.cell? ⟨b, j * 8 + 2, none⟩ = some (.string t1)) (by kernel_rfl) ?hS2 (fun hHeld => ?_)
      case hS2 => exact hc2
      refine wpAnyH_take (i := 0) (v := ?_) rfl (by kernel_rfl) (by kernel_rfl) (by kernel_rfl) (fun _ _ _ h => h) (Or.inl ⟨by rfl, ?hy20⟩) (by assumption) ?ty20
      case hy20 => (intro w hSw; (try dsimp only at hSw); go_simp; all_goals with_reducible rfl)
      simp only [Act.put, List.getElem_toArray, List.getElem_cons_zero, List.setIfInBounds_toArray, List.set_cons_zero, List.set_cons_succ]
      refine wpAnyH_take (i := 1) (v := ?_) rfl (by kernel_rfl) (by kernel_rfl) (by kernel_rfl) (fun _ _ _ h => h) (Or.inl ⟨by rfl, ?hy21⟩) (by assumption) ?ty21
      case hy21 => (intro w hSw; (try dsimp only at hSw); go_simp; all_goals with_reducible rfl)
      simp only [Act.put, List.getElem_toArray, List.getElem_cons_zero, List.getElem_cons_succ, List.setIfInBounds_toArray, List.set_cons_zero, List.set_cons_succ]
      refine wpAnyH_take (i := 2) (v := ?_) rfl (by kernel_rfl) (by kernel_rfl) (by kernel_rfl) (fun _ _ _ h => h) (Or.inl ⟨by rfl, ?hy22⟩) (by assumption) ?ty22
      case hy22 => (intro w hSw; (try dsimp only at hSw); go_simp; all_goals with_reducible rfl)
      simp only [Act.put, List.getElem_toArray, List.getElem_cons_zero, List.getElem_cons_succ, List.setIfInBounds_toArray, List.set_cons_zero, List.set_cons_succ]
      refine wpAnyH_take (i := 3) (v := ?_) rfl (by kernel_rfl) (by kernel_rfl) (by kernel_rfl) (fun _ _ _ h => h) (Or.inl ⟨by rfl, ?hy23⟩) (by assumption) ?ty23
      case hy23 => (intro w hSw; (try dsimp only at hSw); go_simp; all_goals with_reducible rfl)
      simp only [Act.put, List.getElem_toArray, List.getElem_cons_zero, List.getElem_cons_succ, List.setIfInBounds_toArray, List.set_cons_zero, List.set_cons_succ]
      refine wpAnyH_take (i := 4) (v := ?_) rfl (by kernel_rfl) (by kernel_rfl) (by kernel_rfl) (fun _ _ _ h => h) (Or.inl ⟨by rfl, ?hy24⟩) (by assumption) ?ty24
      case hy24 => (intro w hSw; (try dsimp only at hSw); go_simp; all_goals with_reducible rfl)
      simp only [Act.put, List.getElem_toArray, List.getElem_cons_zero, List.getElem_cons_succ, List.setIfInBounds_toArray, List.set_cons_zero, List.set_cons_succ]
      refine wpAnyH_take (i := 5) (v := ?_) rfl (by kernel_rfl) (by kernel_rfl) (by kernel_rfl) (fun _ _ _ h => h) (Or.inl ⟨by rfl, ?hy25⟩) (by assumption) ?ty25
      case hy25 => (intro w hSw; (try dsimp only at hSw); go_simp; all_goals with_reducible rfl)
      simp only [Act.put, List.getElem_toArray, List.getElem_cons_zero, List.getElem_cons_succ, List.setIfInBounds_toArray, List.set_cons_zero, List.set_cons_succ]
      refine wpAnyH_ready (rs := [6]) (by kernel_rfl) (by simp) ?_
      refine AllReadyH.cons rfl (fun K hK => ?_) AllReadyH.nil
      go_simp
      refine (HT2.out _).mono ?_
      rintro e w2 ⟨rfl, hbx⟩
      have HWw2 : Hid (Below w1.heap.size w1 w2) := (Below.refl _ _).drew.trans hbx
      have hsS : w2.cell? ⟨b, j * 8 + 2, none⟩ = some (.string t1) := (HWw2.out.cell (p := ⟨b, j * 8 + 2, none⟩) lb1).trans hc2
      refine hK.out _ _ hsS (fun hHeld => ?_)
      clear hK K
      refine wpAnyH_take (i := 7) (v := .bool false) rfl (by kernel_rfl) (by kernel_rfl) (by kernel_rfl) (fun _ _ _ h => h) (Or.inl ⟨by rfl, ?hy27⟩) (by assumption) ?ty27
      case hy27 => (intro w hSw; (try dsimp only at hSw); go_simp; first | (simp; done) | (all_goals with_reducible rfl))
      simp only [Act.put, List.getElem_toArray, List.getElem_cons_zero, List.getElem_cons_succ, List.setIfInBounds_toArray, List.set_cons_zero, List.set_cons_succ]
      refine wpAnyH_done (by kernel_rfl) ?_ _
      clear hHeld hbx hsS HT2
      have HWx : Hid (Below wr.heap.size wr w2) := HWw1.out.trans (HWw2.out.mono HWw1.out.size)
      obtain ⟨c3, c4, c5, c6, c7, hu, hd, hB⟩ := HCS.out w2 HWx.out
      clear HCS HWx HWw1 HWw2 hc2
      have HC := heldInt64S_any ua un uc (k + 3) w2 hu (by omega) (by omega)
      rw [show ((k + 3 : Nat) : Int) = (k : Int) + 1 + 1 + 1 by omega] at HC
      obtain ⟨kq, hkq⟩ : ∃ kq, k + 3 + un = kq := ⟨_, rfl⟩
      rw [hkq] at HC hd c4 c5 c6
      have HD := heldByteS_any ba bn bc' (kq + 3) w2 hd (by omega) (by omega)
      rw [show ((kq + 3 : Nat) : Int) = (kq : Int) + 1 + 1 + 1 by omega] at HD
      obtain ⟨kr, hkr⟩ : ∃ kr, kq + 3 + bn = kr := ⟨_, rfl⟩
      rw [hkr] at HD
      have HKR : Hid (kJ (l.take (j + 1)) = kr) := by show _ = _; rw [HSN.out]; omega
      have hp1 : ¬ (kq : Int) < 0 := by omega
      have hp2 : ¬ (kr : Int) < 0 := by omega
      clear hu hd HSN
      go_wp2_with fail
      refine HC.mono ?_
      rintro e w3 ⟨rfl, rfl⟩
      clear HC
      go_wp2_with fail
      refine HD.mono ?_
      rintro e w3 ⟨rfl, rfl⟩
      clear HD
      go_wp2
      go_roundw
      case rel => exact ⟨j + 1, by omega, by go_num, by rw [HKR.out], hB⟩
      case measure => simp [intOf]; omega
    · have hji : ¬ (j : Int) < (n : Int) := by omega
      go_wp2
      go_ret
      refine ⟨?_, hbel⟩
      rw [show kJ l = kJ (l.take j) by rw [List.take_of_length_le (by rw [HL.out]; omega)]]
      rfl
end Go.Proofs.YthiieeblpefcpaaDoor
