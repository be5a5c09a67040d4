/- PartCodes, both sides. -/
import Derived.Test.YtkjnhcnbbojajaaGreatDoorPcm
namespace Go.Proofs.YtkjnhcnbbojajaaGreatDoor
open Go.RowKit

/-- What PartCodes answers. -/
def pqV (d : List Nat) (k : Int) : Int × List Int := if (pwV d k).1 = 0 then pcP d (ppV d k) else ((pwV d k).1, [])
theorem pqV_zero {d : List Nat} {k : Int} (h : (pqV d k).1 ≠ 0) : (pqV d k).2 = [] := by
  unfold pqV at h ⊢
  split
  · rename_i h1; rw [if_pos h1] at h; exact pcP_zero h
  · rfl
theorem pcP_len (d : List Nat) (p : PtP) : (pcP d p).2.length ≤ 400 := by
  unfold pcP
  split
  · simp
  · split
    · simp
    · split
      · simp
      · exact decT_few _ _
theorem pqV_len (d : List Nat) (k : Int) : (pqV d k).2.length ≤ 400 := by
  unfold pqV
  split
  · exact pcP_len _ _
  · simp
theorem CodEnd.at_ {c : Int} {w w1 : World} {v : Value} {l : List Int} {R : Nat} (hbel : Below w.heap.size w w1) (hR : w.heap.size ≤ R) (hown : OwnI w1 (R + 1) v l) (x y : Value) : CodEnd (c, l) w (.returned (.agg #[.int .i64 c, v])) ((w1.setCell ⟨R, 0, none⟩ x).setCell ⟨R, 1, none⟩ y) :=
  ⟨v, rfl, row_low (ownsRow_setCell_below (ownsRow_setCell_below hown (by simp) _) (by simp) _) (by omega), (hbel.setCell (p := ⟨R, 0, none⟩) hR _).setCell (p := ⟨R, 1, none⟩) hR _⟩

set_option maxHeartbeats 1600000 in
set_option maxRecDepth 100000 in
theorem partCodes1_any (b m B0 B1 : Nat) (d : List Nat) (k : Int) (w : World) (hr : Rd w (some ⟨b, 0, none⟩) d) (hT : TabC w) (hTB : TabB w) (hTH : TabH w) (hMI : MaxI w) (hB : IsB d) (hl : d.length = m)
    (h0 : w.cell? ⟨B0, 0, none⟩ = some (.slice (some ⟨b, 0, none⟩) m m)) (h1 : w.cell? ⟨B1, 0, none⟩ = some (.int .i64 k)) :
    Calls Tryz.prog 110 #[.pointer (some ⟨B0, 0, none⟩), .pointer (some ⟨B1, 0, none⟩)] w (SeeI (pqV d k) w) := by
  have l0 := World.block_lt_of_cell? w ⟨B0, 0, none⟩ h0
  have l1 := World.block_lt_of_cell? w ⟨B1, 0, none⟩ h1
  dsimp only at l0 l1
  have HP := partIn_any b m d k w.drew hr hT hB hl
  have HY : Hid (∀ w', Below w.heap.size w w' → (pwV d k).1 = 0 → Calls Tryz.prog 108 #[.slice (some ⟨b, 0, none⟩) m m, ptA (ppV d k)] w' (SeeI (pqV d k) w')) := fun w' hb h => by
    obtain ⟨h4, f, t, h1, h2, h3⟩ := ppV_in h
    have e : pqV d k = pcP d (ppV d k) := if_pos h
    rw [e]
    exact codesOfPart_any b m d (ppV d k) f t w' (hr.below hb) hB hl (by omega) h1 h2 (by omega) (hTB.below hb) (hTH.below hb) (hMI.below hb)
  have HZ : Hid ((pwV d k).1 ≠ 0 → pqV d k = ((pwV d k).1, [])) := fun h => if_neg h
  have HQ : Hid ((pwV d k).1 = 0 → nthP (pwV d k).2 k.toNat = ppV d k) := fun h => (if_pos h).symm
  generalize pqV d k = r at *
  generalize ppV d k = q at *
  generalize pwV d k = pw at *
  unfold ptA at *
  obtain ⟨⟨p0, p1, p2⟩, ⟨p3, p4⟩, p5, p6⟩ := q
  dsimp only at HY
  go_enter Tryz.func110, Tryz.ntmps110
  go_wp2_with fail
  refine wp_region_held_drew (S := fun w' => w'.cell? ⟨B0, 0, none⟩ = some (.slice (some ⟨b, 0, none⟩) m m) ∧ w'.cell? ⟨B1, 0, none⟩ = some (.int .i64 k)) (by kernel_rfl) ?hS1 (fun hHeld => ?_)
  case hS1 => exact ⟨h0, h1⟩
  refine wpAnyH_take (i := 0) (v := ?_) rfl (by kernel_rfl) (by kernel_rfl) (by kernel_rfl) (fun _ _ _ h => h) (Or.inl ⟨by rfl, ?hy2⟩) (by assumption) ?ty2
  case hy2 => (intro w hSw; (try dsimp only at hSw); go_simp; all_goals with_reducible rfl)
  simp only [Act.put, List.getElem_toArray, List.getElem_cons_zero, List.setIfInBounds_toArray, List.set_cons_zero, List.set_cons_succ]
  refine wpAnyH_take (i := 1) (v := ?_) rfl (by kernel_rfl) (by kernel_rfl) (by kernel_rfl) (fun _ _ _ h => h) (Or.inl ⟨by rfl, ?hy3⟩) (by assumption) ?ty3
  case hy3 => (intro w hSw; (try dsimp only at hSw); go_simp; all_goals with_reducible rfl)
  simp only [Act.put, List.getElem_toArray, List.getElem_cons_zero, List.getElem_cons_succ, List.setIfInBounds_toArray, List.set_cons_zero, List.set_cons_succ]
  refine wpAnyH_take (i := 2) (v := ?_) rfl (by kernel_rfl) (by kernel_rfl) (by kernel_rfl) (fun _ _ _ h => h) (Or.inl ⟨by rfl, ?hy4⟩) (by assumption) ?ty4
  case hy4 => (intro w hSw; (try dsimp only at hSw); go_simp; all_goals with_reducible rfl)
  simp only [Act.put, List.getElem_toArray, List.getElem_cons_zero, List.getElem_cons_succ, List.setIfInBounds_toArray, List.set_cons_zero, List.set_cons_succ]
  refine wpAnyH_ready (rs := [3]) (by kernel_rfl) (by simp) ?_
  refine AllReadyH.cons rfl (fun K hK => ?_) AllReadyH.nil
  go_simp
  refine HP.mono ?_
  rintro e w1 ⟨⟨h2, he⟩ | ⟨h2, rfl⟩, hb1⟩
  · rw [HQ.out h2] at he
    subst he
    dsimp only [ptA]
    have hW : Below w.heap.size w w1 := (Below.refl _ _).drew.trans hb1
    have hsS : w1.cell? ⟨B0, 0, none⟩ = some (.slice (some ⟨b, 0, none⟩) m m) ∧ w1.cell? ⟨B1, 0, none⟩ = some (.int .i64 k) := ⟨(hW.cell (p := ⟨B0, 0, none⟩) l0).trans h0, (hW.cell (p := ⟨B1, 0, none⟩) l1).trans h1⟩
    refine hK.out _ _ hsS (fun hHeld => ?_)
    clear hK K
    refine wpAnyH_ready (rs := [4]) (by kernel_rfl) (by simp) ?_
    refine AllReadyH.cons rfl (fun K hK => ?_) AllReadyH.nil
    go_simp
    refine (HY.out _ hW h2).mono ?_
    rintro e w2 ⟨⟨h3, v, rfl, ho⟩ | ⟨h3, rfl⟩, hb2⟩
    · have hW2 := hW.trans (hb2.mono hW.size)
      have ho2 : OwnI w2 w.heap.size v r.2 := row_low ho hW.size
      obtain ⟨a, cp, hv, -, -⟩ := ho2.form
      subst hv
      have hsS2 : w2.cell? ⟨B0, 0, none⟩ = some (.slice (some ⟨b, 0, none⟩) m m) ∧ w2.cell? ⟨B1, 0, none⟩ = some (.int .i64 k) := ⟨(hW2.cell (p := ⟨B0, 0, none⟩) l0).trans h0, (hW2.cell (p := ⟨B1, 0, none⟩) l1).trans h1⟩
      refine hK.out _ _ hsS2 (fun hHeld => ?_)
      clear hK K
      refine wpAnyH_take (i := 5) (v := ?_) rfl (by kernel_rfl) (by kernel_rfl) (by kernel_rfl) (fun _ _ _ h => h) (Or.inl ⟨by rfl, ?hy5⟩) (by assumption) ?ty5
      case hy5 => (intro w hSw; (try dsimp only at hSw); go_simp; all_goals with_reducible rfl)
      simp only [Act.put, List.getElem_toArray, List.getElem_cons_zero, List.getElem_cons_succ, List.setIfInBounds_toArray, List.set_cons_zero, List.set_cons_succ]
      refine wpAnyH_done (by kernel_rfl) ?_ _
      clear hHeld
      go_wp2
      go_ret
      exact ⟨.inl ⟨h3, _, rfl, ho2⟩, hW2⟩
    · exact ⟨rfl, .inr ⟨h3, rfl⟩, hW.trans (hb2.mono hW.size)⟩
  · refine ⟨rfl, ?_⟩
    rw [HZ.out h2]
    exact ⟨.inr ⟨h2, rfl⟩, (Below.refl _ _).drew.trans hb1⟩

set_option maxHeartbeats 1600000 in
set_option maxRecDepth 100000 in
theorem partCodes_any (b m : Nat) (d : List Nat) (k : Int) (w : World) (hr : Rd w (some ⟨b, 0, none⟩) d) (hT : TabC w) (hTB : TabB w) (hTH : TabH w) (hMI : MaxI w) (hB : IsB d) (hl : d.length = m) :
    Calls Tryz.prog 48 #[.slice (some ⟨b, 0, none⟩) m m, .int .i64 k] w (CodEnd (pqV d k) w) := by
  have hmf : ∀ (fn : Fn) (first cap : Array Value) (w : World), (Instr.makeFunc fn first cap).run Tryz.prog w = .ok (.func fn first cap) w := fun _ _ _ _ => rfl
  have hG : ∀ (args : Array Value) (w : World), (callFunc 110 args).run Tryz.prog w = .ok (.enter 110 args) w := fun _ _ => by kernel_rfl
  have hb0 : Below w.heap.size w (((w.alloc (.cells #[.slice (some ⟨b, 0, none⟩) m m] 22)).alloc (.cells #[.int .i64 k] 2)).alloc (.cells #[.int .i64 0, .slice none 0 0] 59)) := (((Below.refl _ _).alloc (Nat.le_refl _) _).alloc (by simp) _).alloc (by simp; omega) _
  have HS : Hid (∀ W : World, Below w.heap.size w W → W.cell? ⟨w.heap.size, 0, none⟩ = some (.slice (some ⟨b, 0, none⟩) m m) → W.cell? ⟨w.heap.size + 1, 0, none⟩ = some (.int .i64 k) → Calls Tryz.prog 109 #[.func (.func 110) #[] #[.pointer (some ⟨w.heap.size, 0, none⟩), .pointer (some ⟨w.heap.size + 1, 0, none⟩)]] W fun e w' => ∃ v, e = .returned (.tuple #[v, .int .i64 (pqV d k).1]) ∧ OwnI w' W.heap.size v (pqV d k).2 ∧ Below W.heap.size W w') := fun W hW c0 c1 => by
    have hbC := hW.alloc hW.size (.cells #[.int .i64 0] 2)
    exact seeI_of _ _ (pqV d k) W hG (fun h => pqV_zero h) (partCodes1_any b m _ _ d k _ (hr.below hbC) (hT.below hbC) (hTB.below hbC) (hTH.below hbC) (hMI.below hbC) hB hl (cellB c0) (cellB c1))
  generalize pqV d k = r at *
  obtain ⟨rc, rl⟩ := r
  dsimp only at HS
  have x0 : (((w.alloc (.cells #[.slice (some ⟨b, 0, none⟩) m m] 22)).alloc (.cells #[.int .i64 k] 2)).alloc (.cells #[.int .i64 0, .slice none 0 0] 59)).cell? ⟨w.heap.size, 0, none⟩ = some (.slice (some ⟨b, 0, none⟩) m m) := cellB (cellB (by simp))
  have x1 : (((w.alloc (.cells #[.slice (some ⟨b, 0, none⟩) m m] 22)).alloc (.cells #[.int .i64 k] 2)).alloc (.cells #[.int .i64 0, .slice none 0 0] 59)).cell? ⟨w.heap.size + 1, 0, none⟩ = some (.int .i64 k) := cellB (new_cell1 (by simp) _ _)
  have hsz : (((w.alloc (.cells #[.slice (some ⟨b, 0, none⟩) m m] 22)).alloc (.cells #[.int .i64 k] 2)).alloc (.cells #[.int .i64 0, .slice none 0 0] 59)).heap.size = w.heap.size + 1 + 1 + 1 := by simp
  have HRB := fun (wx : World) (hx : Below (w.heap.size + 1 + 1 + 1) (((w.alloc (.cells #[.slice (some ⟨b, 0, none⟩) m m] 22)).alloc (.cells #[.int .i64 k] 2)).alloc (.cells #[.int .i64 0, .slice none 0 0] 59)) wx) => res_block (w := ((w.alloc (.cells #[.slice (some ⟨b, 0, none⟩) m m] 22)).alloc (.cells #[.int .i64 k] 2))) (wr := wx) rfl (by simpa using hx)
  have hs3 : ((w.alloc (.cells #[.slice (some ⟨b, 0, none⟩) m m] 22)).alloc (.cells #[.int .i64 k] 2)).heap.size = w.heap.size + 1 + 1 := by simp
  rw [hs3] at HRB
  go_enter Tryz.func48, Tryz.ntmps48
  go_wp2_with fail
  refine (HS.out _ hb0 x0 x1).mono ?_
  rintro e w1 ⟨v, rfl, ho, hb1⟩
  rw [hsz] at ho hb1
  obtain ⟨a0, a1, z0, z1⟩ := HRB w1 hb1
  have hbw := hb0.trans (hb1.mono (by omega))
  obtain ⟨a, cp, hv, -, -⟩ := ho.form
  subst hv
  obtain ⟨k0, k1⟩ := res_at a0 a1 (.int .i64 rc) (.slice a rl.length cp)
  have HE : Hid (_) := CodEnd.at_ (c := rc) hbw (R := w.heap.size + 1 + 1) (by omega) ho (.int .i64 rc) (.slice a rl.length cp)
  clear HRB x0 x1 HS hb0 hsz hs3 hb1 ho
  go_wp2
  refine bodyPost_ret (v := .agg #[.int .i64 rc, .slice a rl.length cp]) (by simp [results, Tryz.results48, go_sem, k0, k1]) rfl ?_
  exact HE.out

set_option maxHeartbeats 1600000 in
set_option maxRecDepth 100000 in
theorem specPartCodes_any (b m : Nat) (d : List Nat) (k : Int) (w : World) (hr : Rd w (some ⟨b, 0, none⟩) d) (hb : b < w.heap.size) (hB : IsB d) (hl : d.length = m) :
    Calls Tryz.prog 50 #[.slice (some ⟨b, 0, none⟩) m m, .int .i64 k] w (CodEnd (pqV d k) w) := by
  have hb0 : Below w.heap.size w (w.alloc (.cells #[.int .i64 0, .slice none 0 0] 59)) := (Below.refl _ _).alloc (Nat.le_refl _) _
  have HL := l6Part_any b m d k _ (hr.below hb0) (Nat.lt_of_lt_of_le hb hb0.size) hB hl
  have HZ : Hid ((pwV d k).1 ≠ 0 → pqV d k = ((pwV d k).1, [])) := fun h => if_neg h
  have HY : Hid (∀ W P, Below w.heap.size w W → (pwV d k).1 = 0 → PtAt W P (ppV d k).1.1 (ppV d k).1.2.1 (ppV d k).1.2.2 (ppV d k).2.1.1 (ppV d k).2.1.2 (ppV d k).2.2.1 (ppV d k).2.2.2 → Calls Tryz.prog 112 #[.slice (some ⟨b, 0, none⟩) m m, .pointer (some ⟨P, 0, none⟩)] W fun e w' => ∃ v, e = .returned (.tuple #[v, .int .i64 (pqV d k).1]) ∧ OwnI w' W.heap.size v (pqV d k).2 ∧ Below W.heap.size W w') := fun W P hW h hP => by
    obtain ⟨h4, f, t, h1, h2, h3⟩ := ppV_in h
    have e : pqV d k = pcP d (ppV d k) := if_pos h
    rw [e]
    exact l6Codes_any b m P 0 d (ppV d k) f t W (hr.below hW) hB hl (by omega) h1 h2 (by omega) (ppV_cs h) (PtC.of hP)
  generalize pqV d k = r at *
  generalize ppV d k = q at *
  generalize (pwV d k).1 = c at *
  unfold ptA at HL
  obtain ⟨⟨p0, p1, p2⟩, ⟨p3, p4⟩, p5, p6⟩ := q
  dsimp only at HL HY
  go_enter Tryz.func50, Tryz.ntmps50
  go_wp2_with fail
  refine HL.mono ?_
  rintro e w1 ⟨rfl, hb1⟩
  have hbl : Below (w.heap.size + 1) (w.alloc (.cells #[.int .i64 0, .slice none 0 0] 59)) w1 := hb1.mono (by simp)
  have hbw := hb0.trans (hbl.mono (by omega))
  have hlt : w.heap.size < w1.heap.size := by have hz := hbl.size; rw [World.size_alloc] at hz; omega
  have hbA : Below w1.heap.size w1 (w1.alloc (.cells #[.int .i64 p0, .int .i64 p1, .int .i64 p2, .int .i64 p3, .int .i64 p4, .int .i64 p5, .int .i64 p6] 30)) := (Below.refl _ _).alloc (Nat.le_refl _) _
  have hbwA := hbw.trans (hbA.mono hbw.size)
  have hblA := hbl.trans (hbA.mono (by have hz := hbl.size; simpa using hz))
  clear HL hb1
  by_cases hc : c = 0
  · subst hc
    have hP : PtAt (w1.alloc (.cells #[.int .i64 p0, .int .i64 p1, .int .i64 p2, .int .i64 p3, .int .i64 p4, .int .i64 p5, .int .i64 p6] 30)) w1.heap.size p0 p1 p2 p3 p4 p5 p6 := heap_alloc_new w1 _
    have HY2 := HY.out _ _ hbwA rfl hP
    clear HY HZ hP
    go_wp2_with fail
    refine HY2.mono ?_
    rintro e w2 ⟨v, rfl, ho, hb2⟩
    have hbl2 := hblA.trans (hb2.mono (by simp; omega))
    have hbw2 := hb0.trans (hbl2.mono (by omega))
    have ho2 : OwnI w2 (w.heap.size + 1) v r.2 := row_low ho (by simp; omega)
    obtain ⟨a, cp, hv, -, -⟩ := ho2.form
    subst hv
    obtain ⟨a0, a1, z0, z1⟩ := res_block rfl hbl2
    obtain ⟨rc, rl⟩ := r
    dsimp only at ho2 a0 a1 ⊢
    obtain ⟨k0, k1⟩ := res_at a0 a1 (.int .i64 rc) (.slice a rl.length cp)
    have HE : Hid (_) := CodEnd.at_ (c := rc) hbw2 (R := w.heap.size) (Nat.le_refl _) ho2 (.int .i64 rc) (.slice a rl.length cp)
    clear ho ho2 hb2 HY2
    go_wp2
    refine bodyPost_ret (v := .agg #[.int .i64 rc, .slice a rl.length cp]) (by simp [results, Tryz.results50, go_sem, k0, k1]) rfl ?_
    exact HE.out
  · have hM : r = (c, []) := HZ.out hc
    subst hM
    have hc' : (c != 0) = true := by simpa using hc
    obtain ⟨a0, a1, z0, z1⟩ := res_block rfl hbl
    obtain ⟨k0', k1'⟩ := res_at a0 a1 (.int .i64 c) (.slice none 0 0)
    have HK : Hid (∀ ob : Obj, (((w1.setCell ⟨w.heap.size, 0, none⟩ (.int .i64 c)).setCell ⟨w.heap.size, 1, none⟩ (.slice none 0 0)).alloc ob).cell? ⟨w.heap.size, 0, none⟩ = some (.int .i64 c) ∧ (((w1.setCell ⟨w.heap.size, 0, none⟩ (.int .i64 c)).setCell ⟨w.heap.size, 1, none⟩ (.slice none 0 0)).alloc ob).cell? ⟨w.heap.size, 1, none⟩ = some (.slice none 0 0)) := fun ob => ⟨cellB k0', cellB k1'⟩
    obtain ⟨k0, k1⟩ := HK.out (.cells #[.int .i64 p0, .int .i64 p1, .int .i64 p2, .int .i64 p3, .int .i64 p4, .int .i64 p5, .int .i64 p6] 30)
    have HE : Hid (∀ ob : Obj, CodEnd (c, []) w (.returned (.agg #[.int .i64 c, .slice none 0 0])) (((w1.setCell ⟨w.heap.size, 0, none⟩ (.int .i64 c)).setCell ⟨w.heap.size, 1, none⟩ (.slice none 0 0)).alloc ob)) := fun ob =>
      ⟨_, rfl, OwnI.nil _ _, ((hbw.setCell (p := ⟨w.heap.size, 0, none⟩) (Nat.le_refl _) _).setCell (p := ⟨w.heap.size, 1, none⟩) (Nat.le_refl _) _).alloc (by simp; omega) _⟩
    clear HY HZ HK k0' k1'
    go_wp2
    refine bodyPost_ret (v := .agg #[.int .i64 c, .slice none 0 0]) (by simp [results, Tryz.results50, go_sem, k0, k1]) rfl ?_
    exact HE.out _

/-- PartCodes, both sides. -/
theorem bothPartCodes (w : World) (hT : TabC w) (hTB : TabB w) (hTH : TabH w) (hMI : MaxI w) (k : Int) (_hk : (Lit.int .i64 k).wf = true) (m : Nat) (s : List Nat) (hl : s.length = m) (hB : IsB s) (_hm : m ≤ 1048576) : ∃ (c : Int) (l : List Int), l.length ≤ 400 ∧
    (∀ (b : Nat) (wx : World), Below w.heap.size w wx → b < wx.heap.size → Rd wx (some ⟨b, 0, none⟩) s → Calls Tryz.prog 50 #[.slice (some ⟨b, 0, none⟩) m m, .int .i64 k] wx fun e w' => ∃ v, e = .returned (.agg #[.int .i64 c, v]) ∧ OwnI w' wx.heap.size v l ∧ Below wx.heap.size wx w') ∧
    (∀ (b : Nat) (wx : World), Below w.heap.size w wx → b < wx.heap.size → Rd wx (some ⟨b, 0, none⟩) s → Calls Tryz.prog 48 #[.slice (some ⟨b, 0, none⟩) m m, .int .i64 k] wx fun e w' => ∃ v, e = .returned (.agg #[.int .i64 c, v]) ∧ OwnI w' wx.heap.size v l ∧ Below wx.heap.size wx w') :=
  ⟨(pqV s k).1, (pqV s k).2, pqV_len s k, fun b wx _ hlt hr => specPartCodes_any b m s k wx hr hlt hB hl, fun b wx hb _ hr => partCodes_any b m s k wx hr (hT.below hb) (hTB.below hb) (hTH.below hb) (hMI.below hb) hB hl⟩
end Go.Proofs.YtkjnhcnbbojajaaGreatDoor
